/- The walk of CodecApart. -/
import Derived.Test.YtfjdojodbhmmaaaApartA
namespace Go.Proofs.Ytfjdojodbhmmaaa
open Go.RowKit
set_option linter.unusedVariables false

theorem room_le (l : List Pt) (h : ∀ x ∈ l, x.B.length ≤ 1048576) : roomAll l ≤ l.length * 1048586 := by
  induction l with
  | nil => simp [roomAll]
  | cons x r ih =>
    have h1 := h x (by simp)
    have h2 := ih (fun y hy => h y (by simp [hy]))
    simp only [roomAll, List.length_cons]
    omega

theorem same_q0 (W : World) (va vb : Value) (xs bs : List UInt8) (r : Bool) (x : Nat) (ha : Bs W va xs) (hb : Bs W vb bs) (hr : (xs == bs) = r) : Calls Try.prog 12 #[va, vb] (W.drewN x) fun e w' => e = .returned (.bool r) ∧ ∃ m, w' = W.drewN m :=
  (same_any _ va vb xs bs (ha.turn_no ((Turn.refl no W).drewN _)) (hb.turn_no ((Turn.refl no W).drewN _))).mono (fun _ _ ⟨q1, m, q2⟩ => ⟨by rw [q1, hr], x + m, by rw [q2]; simp⟩)

set_option maxRecDepth 100000 in
set_option maxHeartbeats 2000000 in
theorem apart_none (w : World) (a : Option Addr) (c : Nat) :
    Calls Try.prog 3 #[.slice a 0 c] w fun e w' => e = .returned (.bool true) ∧ Turn no w w' := by
  have call : ∀ W, Calls Try.prog 13 #[.slice none 0 0] W fun e w' => ∃ a c, e = .returned (.tuple #[.slice a 0 c, .bool true]) ∧ Bs w' (.slice a 0 c) [] ∧ Turn no W w' := fun W => (all_any W (.slice none 0 0) [] (Or.inl ⟨rfl, rfl⟩) (by simp [roomAll])).mono (by
    rintro e w' ⟨v, rfl, O, _, t⟩
    obtain ⟨a, c, rfl⟩ := O.bs.slice
    exact ⟨a, c, rfl, O.bs, t⟩)
  go_enter Try.func3, Try.ntmps3
  go_wp2_with fail
  go_loop [3, 4, 5, 6] (fun va vb al i => va = .slice none 0 0 ∧ vb = .slice none 0 0 ∧ al = .bool true ∧ i = .int .i64 0) (fun _ _ _ _ => 0)
  case atStart => exact ⟨rfl, rfl, rfl, rfl⟩
  case round =>
    obtain ⟨rfl, rfl, rfl, rfl⟩ := hrel
    go_wp2_with fail
    refine (call _).mono ?_
    rintro e w1 ⟨a1, k1, rfl, B1, t1⟩
    go_wp2_with fail
    refine (call _).mono ?_
    rintro e w2 ⟨a2, k2, rfl, B2, t2⟩
    have B1' := B1.turn_no t2
    go_wp2_with fail
    refine (same_any _ _ _ [] [] B1' B2).mono ?_
    rintro e w' ⟨rfl, n3, rfl⟩
    have hbeq : (([] : List UInt8) == []) = true := rfl
    rw [hbeq]
    go_wp2_with fail
    go_ret
    exact ⟨rfl, (t1.then_no t2).drewN _⟩


set_option maxRecDepth 100000 in
set_option maxHeartbeats 20000000 in
theorem apart_walk (w : World) (b o cap : Nat) (ts : List (Int × Pt × Pt)) (hl : ts.length ≤ 1048576) (hlc : ts.length ≤ cap) (hat : ∀ j t, ts[j]? = some t → TwAt w b (o + j * 7) t) (hsz : ∀ (j : Nat) (t : Int × Pt × Pt), ts[j]? = some t → t.2.1.B.length ≤ 1048576 ∧ t.2.2.B.length ≤ 1048576) (h0 : ts.length ≠ 0) :
    Calls Try.prog 3 #[.slice (some ⟨b, o, none⟩) ts.length cap] w fun e w' => e = .returned (.bool true) ∧ Turn no w w' := by
  go_enter Try.func3, Try.ntmps3
  go_wp2_with fail
  go_loopw [3, 4, 5, 6] (fun va vb al c wr => ∃ (k : Nat) (l : List (Pt × Pt)), k ≤ ts.length ∧ c = .int .i64 k ∧ l.length ≤ k ∧ (∀ p ∈ l, Pair p.1 p.2 ∧ Bs w p.1.vb p.1.B ∧ Bs w p.2.vb p.2.B ∧ p.1.B.length ≤ 1048576 ∧ p.2.B.length ≤ 1048576) ∧ al = .bool (alike l) ∧
      OwnN wr 27 3 va l.length (rowCells (l.map (·.1))) ∧ OwnN wr 27 3 vb l.length (rowCells (l.map (·.2))) ∧ (∀ g, va.ownBlock = some g → w.heap.size ≤ g ∧ vb.ownBlock ≠ some g) ∧ (∀ g, vb.ownBlock = some g → w.heap.size ≤ g) ∧ Turn no w wr)
    (fun _ _ _ c _ => ts.length - (intOf c).toNat)
  case atStart => exact ⟨0, [], Nat.zero_le _, rfl, Nat.zero_le _, fun p h => by simp at h, rfl, OwnN.nil _ _ _, OwnN.nil _ _ _, fun g q => (by cases q), fun g q => (by cases q), Turn.refl _ _⟩
  case round =>
    obtain ⟨k, l, hk, rfl, hlk, hpair, rfl, Oa, Ob, fa, fb, T⟩ := hrel
    by_cases hlt : k < ts.length
    · have ht0 := hat k ts[k] (by simp [hlt])
      obtain ⟨sX, sY⟩ := hsz k ts[k] (by simp [hlt])
      generalize ts[k] = t at *
      obtain ⟨tk, A, B⟩ := t
      obtain ⟨c0, hA, hB⟩ := ht0
      simp only at c0 hA hB sX sY
      have hbw : b < w.heap.size := World.block_lt_of_cell? w _ c0
      have hAr := hA.turn_no T
      have hBr := hB.turn_no T
      have c0r := T.keep c0 (fun q => q)
      obtain ⟨a0, a1, a2⟩ := hAr.lit
      obtain ⟨b0, b1, b2⟩ := hBr.lit
      have hlt' : (k : Int) < (ts.length : Int) := by omega
      obtain ⟨Xa, Xc, hAv⟩ := hA.2.2.2.2.slice
      obtain ⟨Ya, Yc, hBv⟩ := hB.2.2.2.2.slice
      rw [hAv] at a2
      rw [hBv] at b2
      have hbr : b < wr.heap.size := World.block_lt_of_cell? wr _ c0r
      go_wp2_with fail
      refine (kind_any _ tk).mono ?_
      rintro e w' ⟨rfl, rfl⟩
      by_cases h5 : tk % 9 = 5
      · have h5' : ((tk % 9) == 5) = true := by simpa using h5
        have BX := hA.2.2.2.2
        have BY := hB.2.2.2.2
        rw [hAv] at BX
        rw [hBv] at BY
        have cX := bs_cap BX
        have cY := bs_cap BY
        by_cases hle : B.B.length < A.B.length
        · have cX' : B.B.length ≤ Xc := by omega
          have BX2 := bs_cut BX B.B.length (by omega)
          have BY2 := bs_cut BY B.B.length (by omega)
          obtain ⟨XB, hXB⟩ : ∃ XB, XB = A.B.take B.B.length := ⟨_, rfl⟩
          obtain ⟨YB, hYB⟩ : ∃ YB, YB = B.B.take B.B.length := ⟨_, rfl⟩
          have e1 : XB.length = B.B.length := by rw [hXB, List.length_take]; omega
          have e2 : YB.length = B.B.length := by rw [hYB, List.length_take]; omega
          rw [← hXB] at BX2
          rw [← hYB] at BY2
          go_wp2_with fail
          clear BX BY hXB hYB hAv hBv
          have BX := BX2
          have BY := BY2
          clear BX2 BY2
          generalize B.B.length = N at *
          have hlen5 : (5 : Int) % 9 = 5 → XB.length = YB.length := fun q => by omega
          have hxl : XB.length < 9223372036854775808 := by have := BX.le; unfold maxLen at this; omega
          have hyl : YB.length < 9223372036854775808 := by have := BY.le; unfold maxLen at this; omega
          have T4 : Turn no wr ((wr.alloc (.cells #[.int .i64 (5), .int .u64 A.n, .slice Xa N Xc] 27)).alloc (.cells #[.int .i64 (5), .int .u64 B.n, .slice Ya N Yc] 27)) := ((Turn.refl no wr).alloc _).alloc _
          have X4 : ((wr.alloc (.cells #[.int .i64 (5), .int .u64 A.n, .slice Xa N Xc] 27)).alloc (.cells #[.int .i64 (5), .int .u64 B.n, .slice Ya N Yc] 27)).heap[wr.heap.size]? = some (.cells #[.int .i64 (5), .int .u64 A.n, .slice Xa N Xc] 27 (0, 0)) := by rw [Below.heap_alloc _ _ _ (by simp)]; exact heap_alloc_new wr _
          have Y4 : ((wr.alloc (.cells #[.int .i64 (5), .int .u64 A.n, .slice Xa N Xc] 27)).alloc (.cells #[.int .i64 (5), .int .u64 B.n, .slice Ya N Yc] 27)).heap[wr.heap.size + 1]? = some (.cells #[.int .i64 (5), .int .u64 B.n, .slice Ya N Yc] 27 (0, 0)) := by have := heap_alloc_new (wr.alloc (.cells #[.int .i64 (5), .int .u64 A.n, .slice Xa N Xc] 27)) (.cells #[.int .i64 (5), .int .u64 B.n, .slice Ya N Yc] 27); simpa using this
          generalize (wr.alloc (.cells #[.int .i64 (5), .int .u64 A.n, .slice Xa N Xc] 27)).alloc (.cells #[.int .i64 (5), .int .u64 B.n, .slice Ya N Yc] 27) = w4 at *
          have hmx := may_any w4 ⟨5, A.n, .slice Xa N Xc, XB⟩ hA.2.2.2.1 Xa _ Xc rfl
          have hmy := fun W => may_any W ⟨5, B.n, .slice Ya N Yc, YB⟩ hB.2.2.2.1 Ya _ Yc rfl
          have hvx := fun W => value_any W ⟨5, A.n, .slice Xa N Xc, XB⟩ hA.2.2.2.1 Xa _ Xc rfl
          have hvy := fun W => value_any W ⟨5, B.n, .slice Ya N Yc, YB⟩ hB.2.2.2.1 Ya _ Yc rfl
          have hpr : mayB ⟨5, A.n, .slice Xa N Xc, XB⟩ = true → mayB ⟨5, B.n, .slice Ya N Yc, YB⟩ = true → Pair ⟨5, A.n, .slice Xa N Xc, XB⟩ ⟨5, B.n, .slice Ya N Yc, YB⟩ := fun m1 m2 => ⟨rfl, hlen5, m1, m2, hA.2.2.2.1, hB.2.2.2.1, hxl, hyl⟩
          obtain ⟨va1, va2, va3, hvva⟩ := valV_form ⟨5, A.n, .slice Xa N Xc, XB⟩ Xa _ Xc rfl
          obtain ⟨vb1, vb2, vb3, hvvb⟩ := valV_form ⟨5, B.n, .slice Ya N Yc, YB⟩ Ya _ Yc rfl
          have hbvx := fun W (h : Bs W (.slice Xa N Xc) XB) => val_bs (x := ⟨5, A.n, .slice Xa N Xc, XB⟩) h
          have hbvy := fun W (h : Bs W (.slice Ya N Yc) YB) => val_bs (x := ⟨5, B.n, .slice Ya N Yc, YB⟩) h
          rw [hvva] at hvx hbvx
          rw [hvvb] at hvy hbvy
          have hals := alike_snoc l ⟨5, A.n, .slice Xa N Xc, XB⟩ ⟨5, B.n, .slice Ya N Yc, YB⟩
          simp only at hmx hmy hvx hvy hbvx hbvy hals
          by_cases mx : mayB ⟨5, A.n, .slice Xa N Xc, XB⟩ = true
          · rw [mx] at hmx
            refine hmx.mono ?_
            rintro e w5 ⟨rfl, t5⟩
            have T5 := T4.then_no t5
            have Y5 := t5.obj Y4 (fun q => q)
            have X5 := t5.obj X4 (fun q => q)
            have y0 := row_cell' Y5 0 _ rfl
            have y1 := row_cell' Y5 1 _ rfl
            have y2 := row_cell' Y5 2 _ rfl
            go_wp2_with fail
            by_cases my : mayB ⟨5, B.n, .slice Ya N Yc, YB⟩ = true
            · rw [my] at hmy
              refine (hmy _).mono ?_
              rintro e w6 ⟨rfl, t6⟩
              have T6 := T5.then_no t6
              have Y6 := t6.obj Y5 (fun q => q)
              have X6 := t6.obj X5 (fun q => q)
              clear y0 y1 y2
              have x0 := row_cell' X6 0 _ rfl
              have x1 := row_cell' X6 1 _ rfl
              have x2 := row_cell' X6 2 _ rfl
              go_wp2_with fail
              refine (hvx _).mono ?_
              rintro e w7 ⟨rfl, t7⟩
              have T7 := T6.then_no t7
              have Y7 := t7.obj Y6 (fun q => q)
              have X7 := t7.obj X6 (fun q => q)
              clear x0 x1 x2
              have y0 := row_cell' Y7 0 _ rfl
              have y1 := row_cell' Y7 1 _ rfl
              have y2 := row_cell' Y7 2 _ rfl
              have yl : wr.heap.size + 1 < w7.heap.size := lt_of_obj Y7
              go_wp2_with fail
              refine (hvy _).mono ?_
              rintro e w9 ⟨rfl, t9⟩
              have T8 := T7.alloc (.cells #[.int .u64 (val (5) A.n XB).1, .slice va1 va2 va3] 33)
              have T9 := T8.then_no t9
              have V9 := t9.obj (heap_alloc_new w7 _) (fun q => q)
              have v0 := row_cell' V9 0 _ rfl
              have v1 := row_cell' V9 1 _ rfl
              have T10 := T9.alloc (.cells #[.int .u64 (val (5) B.n YB).1, .slice vb1 vb2 vb3] 33)
              have X9 := (t7.trans (S := no) (S' := no) ((Turn.refl no w7).alloc (.cells #[.int .u64 (val (5) A.n XB).1, .slice va1 va2 va3] 33)) (fun _ _ q => q)).then_no t9 |>.obj X6 (fun q => q)
              have Y9 := ((Turn.refl no w7).alloc (.cells #[.int .u64 (val (5) A.n XB).1, .slice va1 va2 va3] 33)).then_no t9 |>.obj Y7 (fun q => q)
              have x0 := row_cell' X9 0 _ rfl
              have x1 := row_cell' X9 1 _ rfl
              have x2 := row_cell' X9 2 _ rfl
              have xl : wr.heap.size < w9.heap.size := lt_of_obj X9
              have yl9 : wr.heap.size + 1 < w9.heap.size := lt_of_obj Y9
              have vl9 : w7.heap.size < w9.heap.size := lt_of_obj V9
              clear y0 y1 y2
              have y0 := row_cell' Y9 0 _ rfl
              have y1 := row_cell' Y9 1 _ rfl
              have y2 := row_cell' Y9 2 _ rfl
              cases hal : alike l with
              | false =>
                go_wp2_with (at_builtin; refine wpList_append_srcN rfl (.tmp 90) (.tmp 92) rfl Try.underlying23 Try.info27 rfl (by decide) _ l.length (rowCells (l.map (·.1))) rfl (Oa.turn_no ((T10).alloc _)) _ 1 (rowCells [⟨5, A.n, .slice Xa N Xc, XB⟩]) rfl ?src ?b ?m ?_)
                case src =>
                  refine src_put' (e := 27) Try.underlying23 _ _ ⟨5, A.n, .slice Xa N Xc, XB⟩ rfl ?_
                  have hh := heap_alloc_new (w9.alloc (.cells #[.int .u64 (val (5) B.n YB).1, .slice vb1 vb2 vb3] 33)) (.cells #[.int .i64 (5), .int .u64 A.n, .slice Xa N Xc] 27)
                  simpa using hh
                case b => omega
                case m => unfold maxLen; omega
                intro v1 w11 O1 G1
                have Y11 := G1.turn.obj ((((Turn.refl no w9).alloc _).alloc _).obj Y9 (fun q => q)) (fun q => by have := Oa.lt q; omega)
                clear x0 x1 x2 y0 y1 y2
                have y0 := row_cell' Y11 0 _ rfl
                have y1 := row_cell' Y11 1 _ rfl
                have y2 := row_cell' Y11 2 _ rfl
                have yl11 : wr.heap.size + 1 < w11.heap.size := lt_of_obj Y11
                have Ob1 : OwnN w11 27 3 u4 l.length (rowCells (l.map (·.2))) := (Ob.turn_no ((T10).alloc _)).turn G1.turn (fun g q1 q2 => (fa g q2).2 q1)
                go_wp2_with (at_builtin; refine wpList_append_srcN rfl (.tmp 94) (.tmp 96) rfl Try.underlying23 Try.info27 rfl (by decide) _ l.length (rowCells (l.map (·.2))) rfl (Ob1.turn_no ((Turn.refl no w11).alloc _)) _ 1 (rowCells [⟨5, B.n, .slice Ya N Yc, YB⟩]) rfl ?src ?b ?m ?_)
                case src =>
                  refine src_put' (e := 27) Try.underlying23 _ _ ⟨5, B.n, .slice Ya N Yc, YB⟩ rfl ?_
                  have hh := heap_alloc_new w11 (.cells #[.int .i64 (5), .int .u64 B.n, .slice Ya N Yc] 27)
                  simpa using hh
                case b => omega
                case m => unfold maxLen; omega
                intro v2 w12 O2 G2
                obtain ⟨O1', fa', fb', TT⟩ := two_grew T ((T10).alloc _) Oa Ob fa fb O1 G1 O2 G2
                go_wp2_with fail
                go_roundw
                case rel =>
                  refine ⟨k + 1, l ++ [(⟨5, A.n, .slice Xa N Xc, XB⟩, ⟨5, B.n, .slice Ya N Yc, YB⟩)], by omega, by go_num, by simp; omega, ?_, ?_, ?_, ?_, fa', fb', TT⟩
                  · intro p hp
                    rcases List.mem_append.1 hp with hp | hp
                    · exact hpair p hp
                    · cases List.mem_singleton.1 hp; exact ⟨hpr mx my, BX, BY, by show XB.length ≤ _; omega, by show YB.length ≤ _; omega⟩
                  · rw [hals, hal, Bool.false_and]
                  · rw [List.map_append, rowCells_app, List.length_append]; exact O1'
                  · rw [List.map_append, rowCells_app, List.length_append]; exact O2
                case measure => simp [intOf]; omega
              | true =>
                by_cases hN : (val (5) A.n XB).1 = (val (5) B.n YB).1
                · have hN' : ((((val (5) A.n XB).1 : Nat) : Int) == (((val (5) B.n YB).1 : Nat) : Int)) = true := by rw [hN]; simp
                  have S1 := hbvx _ (BX.turn_no (T.then_no T10))
                  have S2 := hbvy _ (BY.turn_no (T.then_no T10))
                  go_wp2_with fail
                  refine (same_any _ _ _ _ _ S1 S2).mono ?_
                  rintro e w' ⟨rfl, n10, rfl⟩
                  go_wp2_with (at_builtin; refine wpList_append_srcN rfl (.tmp 90) (.tmp 92) rfl Try.underlying23 Try.info27 rfl (by decide) _ l.length (rowCells (l.map (·.1))) rfl (Oa.turn_no ((T10.drewN n10).alloc _)) _ 1 (rowCells [⟨5, A.n, .slice Xa N Xc, XB⟩]) rfl ?src ?b ?m ?_)
                  case src =>
                    refine src_put' (e := 27) Try.underlying23 _ _ ⟨5, A.n, .slice Xa N Xc, XB⟩ rfl ?_
                    have hh := heap_alloc_new ((w9.alloc (.cells #[.int .u64 (val (5) B.n YB).1, .slice vb1 vb2 vb3] 33)).drewN n10) (.cells #[.int .i64 (5), .int .u64 A.n, .slice Xa N Xc] 27)
                    simpa using hh
                  case b => omega
                  case m => unfold maxLen; omega
                  intro v1 w11 O1 G1
                  have Y11 := G1.turn.obj (((((Turn.refl no w9).alloc _).drewN n10).alloc _).obj Y9 (fun q => q)) (fun q => by have := Oa.lt q; omega)
                  clear x0 x1 x2 y0 y1 y2
                  have y0 := row_cell' Y11 0 _ rfl
                  have y1 := row_cell' Y11 1 _ rfl
                  have y2 := row_cell' Y11 2 _ rfl
                  have yl11 : wr.heap.size + 1 < w11.heap.size := lt_of_obj Y11
                  have Ob1 : OwnN w11 27 3 u4 l.length (rowCells (l.map (·.2))) := (Ob.turn_no ((T10.drewN n10).alloc _)).turn G1.turn (fun g q1 q2 => (fa g q2).2 q1)
                  go_wp2_with (at_builtin; refine wpList_append_srcN rfl (.tmp 94) (.tmp 96) rfl Try.underlying23 Try.info27 rfl (by decide) _ l.length (rowCells (l.map (·.2))) rfl (Ob1.turn_no ((Turn.refl no w11).alloc _)) _ 1 (rowCells [⟨5, B.n, .slice Ya N Yc, YB⟩]) rfl ?src ?b ?m ?_)
                  case src =>
                    refine src_put' (e := 27) Try.underlying23 _ _ ⟨5, B.n, .slice Ya N Yc, YB⟩ rfl ?_
                    have hh := heap_alloc_new w11 (.cells #[.int .i64 (5), .int .u64 B.n, .slice Ya N Yc] 27)
                    simpa using hh
                  case b => omega
                  case m => unfold maxLen; omega
                  intro v2 w12 O2 G2
                  obtain ⟨O1', fa', fb', TT⟩ := two_grew T ((T10.drewN n10).alloc _) Oa Ob fa fb O1 G1 O2 G2
                  go_wp2_with fail
                  go_roundw
                  case rel =>
                    refine ⟨k + 1, l ++ [(⟨5, A.n, .slice Xa N Xc, XB⟩, ⟨5, B.n, .slice Ya N Yc, YB⟩)], by omega, by go_num, by simp; omega, ?_, ?_, ?_, ?_, fa', fb', TT⟩
                    · intro p hp
                      rcases List.mem_append.1 hp with hp | hp
                      · exact hpair p hp
                      · cases List.mem_singleton.1 hp; exact ⟨hpr mx my, BX, BY, by show XB.length ≤ _; omega, by show YB.length ≤ _; omega⟩
                    · rw [hals, hal, Bool.true_and, hN, beq_self_eq_true, Bool.true_and]
                    · rw [List.map_append, rowCells_app, List.length_append]; exact O1'
                    · rw [List.map_append, rowCells_app, List.length_append]; exact O2
                  case measure => simp [intOf]; omega
                · have hN' : ((((val (5) A.n XB).1 : Nat) : Int) == (((val (5) B.n YB).1 : Nat) : Int)) = false := by simp; omega
                  go_wp2_with (at_builtin; refine wpList_append_srcN rfl (.tmp 90) (.tmp 92) rfl Try.underlying23 Try.info27 rfl (by decide) _ l.length (rowCells (l.map (·.1))) rfl (Oa.turn_no ((T10).alloc _)) _ 1 (rowCells [⟨5, A.n, .slice Xa N Xc, XB⟩]) rfl ?src ?b ?m ?_)
                  case src =>
                    refine src_put' (e := 27) Try.underlying23 _ _ ⟨5, A.n, .slice Xa N Xc, XB⟩ rfl ?_
                    have hh := heap_alloc_new (w9.alloc (.cells #[.int .u64 (val (5) B.n YB).1, .slice vb1 vb2 vb3] 33)) (.cells #[.int .i64 (5), .int .u64 A.n, .slice Xa N Xc] 27)
                    simpa using hh
                  case b => omega
                  case m => unfold maxLen; omega
                  intro v1 w11 O1 G1
                  have Y11 := G1.turn.obj ((((Turn.refl no w9).alloc _).alloc _).obj Y9 (fun q => q)) (fun q => by have := Oa.lt q; omega)
                  clear x0 x1 x2 y0 y1 y2
                  have y0 := row_cell' Y11 0 _ rfl
                  have y1 := row_cell' Y11 1 _ rfl
                  have y2 := row_cell' Y11 2 _ rfl
                  have yl11 : wr.heap.size + 1 < w11.heap.size := lt_of_obj Y11
                  have Ob1 : OwnN w11 27 3 u4 l.length (rowCells (l.map (·.2))) := (Ob.turn_no ((T10).alloc _)).turn G1.turn (fun g q1 q2 => (fa g q2).2 q1)
                  go_wp2_with (at_builtin; refine wpList_append_srcN rfl (.tmp 94) (.tmp 96) rfl Try.underlying23 Try.info27 rfl (by decide) _ l.length (rowCells (l.map (·.2))) rfl (Ob1.turn_no ((Turn.refl no w11).alloc _)) _ 1 (rowCells [⟨5, B.n, .slice Ya N Yc, YB⟩]) rfl ?src ?b ?m ?_)
                  case src =>
                    refine src_put' (e := 27) Try.underlying23 _ _ ⟨5, B.n, .slice Ya N Yc, YB⟩ rfl ?_
                    have hh := heap_alloc_new w11 (.cells #[.int .i64 (5), .int .u64 B.n, .slice Ya N Yc] 27)
                    simpa using hh
                  case b => omega
                  case m => unfold maxLen; omega
                  intro v2 w12 O2 G2
                  obtain ⟨O1', fa', fb', TT⟩ := two_grew T ((T10).alloc _) Oa Ob fa fb O1 G1 O2 G2
                  go_wp2_with fail
                  go_roundw
                  case rel =>
                    refine ⟨k + 1, l ++ [(⟨5, A.n, .slice Xa N Xc, XB⟩, ⟨5, B.n, .slice Ya N Yc, YB⟩)], by omega, by go_num, by simp; omega, ?_, ?_, ?_, ?_, fa', fb', TT⟩
                    · intro p hp
                      rcases List.mem_append.1 hp with hp | hp
                      · exact hpair p hp
                      · cases List.mem_singleton.1 hp; exact ⟨hpr mx my, BX, BY, by show XB.length ≤ _; omega, by show YB.length ≤ _; omega⟩
                    · rw [hals, hal, Bool.true_and, beq_false_of_ne hN, Bool.false_and]
                    · rw [List.map_append, rowCells_app, List.length_append]; exact O1'
                    · rw [List.map_append, rowCells_app, List.length_append]; exact O2
                  case measure => simp [intOf]; omega
            · have my' : mayB ⟨5, B.n, .slice Ya N Yc, YB⟩ = false := by simpa using my
              rw [my'] at hmy
              refine (hmy _).mono ?_
              rintro e w6 ⟨rfl, t6⟩
              have TR := T5.then_no t6
              go_wp2_with fail
              go_roundw
              case rel => exact ⟨k + 1, l, by omega, by go_num, by omega, hpair, rfl, Oa.turn_no TR, Ob.turn_no TR, fa, fb, T.then_no TR⟩
              case measure => simp [intOf]; omega
          · have mx' : mayB ⟨5, A.n, .slice Xa N Xc, XB⟩ = false := by simpa using mx
            rw [mx'] at hmx
            refine hmx.mono ?_
            rintro e w5 ⟨rfl, t5⟩
            have TR := T4.then_no t5
            go_wp2_with fail
            go_roundw
            case rel => exact ⟨k + 1, l, by omega, by go_num, by omega, hpair, rfl, Oa.turn_no TR, Ob.turn_no TR, fa, fb, T.then_no TR⟩
            case measure => simp [intOf]; omega
        · have hle' : A.B.length ≤ B.B.length := by omega
          have cY' : A.B.length ≤ Yc := by omega
          have BX2 := bs_cut BX A.B.length (by omega)
          have BY2 := bs_cut BY A.B.length (by omega)
          obtain ⟨XB, hXB⟩ : ∃ XB, XB = A.B.take A.B.length := ⟨_, rfl⟩
          obtain ⟨YB, hYB⟩ : ∃ YB, YB = B.B.take A.B.length := ⟨_, rfl⟩
          have e1 : XB.length = A.B.length := by rw [hXB, List.length_take]; omega
          have e2 : YB.length = A.B.length := by rw [hYB, List.length_take]; omega
          rw [← hXB] at BX2
          rw [← hYB] at BY2
          go_wp2_with fail
          clear BX BY hXB hYB hAv hBv
          have BX := BX2
          have BY := BY2
          clear BX2 BY2
          generalize A.B.length = N at *
          have hlen5 : (5 : Int) % 9 = 5 → XB.length = YB.length := fun q => by omega
          have hxl : XB.length < 9223372036854775808 := by have := BX.le; unfold maxLen at this; omega
          have hyl : YB.length < 9223372036854775808 := by have := BY.le; unfold maxLen at this; omega
          have T4 : Turn no wr ((wr.alloc (.cells #[.int .i64 (5), .int .u64 A.n, .slice Xa N Xc] 27)).alloc (.cells #[.int .i64 (5), .int .u64 B.n, .slice Ya N Yc] 27)) := ((Turn.refl no wr).alloc _).alloc _
          have X4 : ((wr.alloc (.cells #[.int .i64 (5), .int .u64 A.n, .slice Xa N Xc] 27)).alloc (.cells #[.int .i64 (5), .int .u64 B.n, .slice Ya N Yc] 27)).heap[wr.heap.size]? = some (.cells #[.int .i64 (5), .int .u64 A.n, .slice Xa N Xc] 27 (0, 0)) := by rw [Below.heap_alloc _ _ _ (by simp)]; exact heap_alloc_new wr _
          have Y4 : ((wr.alloc (.cells #[.int .i64 (5), .int .u64 A.n, .slice Xa N Xc] 27)).alloc (.cells #[.int .i64 (5), .int .u64 B.n, .slice Ya N Yc] 27)).heap[wr.heap.size + 1]? = some (.cells #[.int .i64 (5), .int .u64 B.n, .slice Ya N Yc] 27 (0, 0)) := by have := heap_alloc_new (wr.alloc (.cells #[.int .i64 (5), .int .u64 A.n, .slice Xa N Xc] 27)) (.cells #[.int .i64 (5), .int .u64 B.n, .slice Ya N Yc] 27); simpa using this
          generalize (wr.alloc (.cells #[.int .i64 (5), .int .u64 A.n, .slice Xa N Xc] 27)).alloc (.cells #[.int .i64 (5), .int .u64 B.n, .slice Ya N Yc] 27) = w4 at *
          have hmx := may_any w4 ⟨5, A.n, .slice Xa N Xc, XB⟩ hA.2.2.2.1 Xa _ Xc rfl
          have hmy := fun W => may_any W ⟨5, B.n, .slice Ya N Yc, YB⟩ hB.2.2.2.1 Ya _ Yc rfl
          have hvx := fun W => value_any W ⟨5, A.n, .slice Xa N Xc, XB⟩ hA.2.2.2.1 Xa _ Xc rfl
          have hvy := fun W => value_any W ⟨5, B.n, .slice Ya N Yc, YB⟩ hB.2.2.2.1 Ya _ Yc rfl
          have hpr : mayB ⟨5, A.n, .slice Xa N Xc, XB⟩ = true → mayB ⟨5, B.n, .slice Ya N Yc, YB⟩ = true → Pair ⟨5, A.n, .slice Xa N Xc, XB⟩ ⟨5, B.n, .slice Ya N Yc, YB⟩ := fun m1 m2 => ⟨rfl, hlen5, m1, m2, hA.2.2.2.1, hB.2.2.2.1, hxl, hyl⟩
          obtain ⟨va1, va2, va3, hvva⟩ := valV_form ⟨5, A.n, .slice Xa N Xc, XB⟩ Xa _ Xc rfl
          obtain ⟨vb1, vb2, vb3, hvvb⟩ := valV_form ⟨5, B.n, .slice Ya N Yc, YB⟩ Ya _ Yc rfl
          have hbvx := fun W (h : Bs W (.slice Xa N Xc) XB) => val_bs (x := ⟨5, A.n, .slice Xa N Xc, XB⟩) h
          have hbvy := fun W (h : Bs W (.slice Ya N Yc) YB) => val_bs (x := ⟨5, B.n, .slice Ya N Yc, YB⟩) h
          rw [hvva] at hvx hbvx
          rw [hvvb] at hvy hbvy
          have hals := alike_snoc l ⟨5, A.n, .slice Xa N Xc, XB⟩ ⟨5, B.n, .slice Ya N Yc, YB⟩
          simp only at hmx hmy hvx hvy hbvx hbvy hals
          by_cases mx : mayB ⟨5, A.n, .slice Xa N Xc, XB⟩ = true
          · rw [mx] at hmx
            refine hmx.mono ?_
            rintro e w5 ⟨rfl, t5⟩
            have T5 := T4.then_no t5
            have Y5 := t5.obj Y4 (fun q => q)
            have X5 := t5.obj X4 (fun q => q)
            have y0 := row_cell' Y5 0 _ rfl
            have y1 := row_cell' Y5 1 _ rfl
            have y2 := row_cell' Y5 2 _ rfl
            go_wp2_with fail
            by_cases my : mayB ⟨5, B.n, .slice Ya N Yc, YB⟩ = true
            · rw [my] at hmy
              refine (hmy _).mono ?_
              rintro e w6 ⟨rfl, t6⟩
              have T6 := T5.then_no t6
              have Y6 := t6.obj Y5 (fun q => q)
              have X6 := t6.obj X5 (fun q => q)
              clear y0 y1 y2
              have x0 := row_cell' X6 0 _ rfl
              have x1 := row_cell' X6 1 _ rfl
              have x2 := row_cell' X6 2 _ rfl
              go_wp2_with fail
              refine (hvx _).mono ?_
              rintro e w7 ⟨rfl, t7⟩
              have T7 := T6.then_no t7
              have Y7 := t7.obj Y6 (fun q => q)
              have X7 := t7.obj X6 (fun q => q)
              clear x0 x1 x2
              have y0 := row_cell' Y7 0 _ rfl
              have y1 := row_cell' Y7 1 _ rfl
              have y2 := row_cell' Y7 2 _ rfl
              have yl : wr.heap.size + 1 < w7.heap.size := lt_of_obj Y7
              go_wp2_with fail
              refine (hvy _).mono ?_
              rintro e w9 ⟨rfl, t9⟩
              have T8 := T7.alloc (.cells #[.int .u64 (val (5) A.n XB).1, .slice va1 va2 va3] 33)
              have T9 := T8.then_no t9
              have V9 := t9.obj (heap_alloc_new w7 _) (fun q => q)
              have v0 := row_cell' V9 0 _ rfl
              have v1 := row_cell' V9 1 _ rfl
              have T10 := T9.alloc (.cells #[.int .u64 (val (5) B.n YB).1, .slice vb1 vb2 vb3] 33)
              have X9 := (t7.trans (S := no) (S' := no) ((Turn.refl no w7).alloc (.cells #[.int .u64 (val (5) A.n XB).1, .slice va1 va2 va3] 33)) (fun _ _ q => q)).then_no t9 |>.obj X6 (fun q => q)
              have Y9 := ((Turn.refl no w7).alloc (.cells #[.int .u64 (val (5) A.n XB).1, .slice va1 va2 va3] 33)).then_no t9 |>.obj Y7 (fun q => q)
              have x0 := row_cell' X9 0 _ rfl
              have x1 := row_cell' X9 1 _ rfl
              have x2 := row_cell' X9 2 _ rfl
              have xl : wr.heap.size < w9.heap.size := lt_of_obj X9
              have yl9 : wr.heap.size + 1 < w9.heap.size := lt_of_obj Y9
              have vl9 : w7.heap.size < w9.heap.size := lt_of_obj V9
              clear y0 y1 y2
              have y0 := row_cell' Y9 0 _ rfl
              have y1 := row_cell' Y9 1 _ rfl
              have y2 := row_cell' Y9 2 _ rfl
              cases hal : alike l with
              | false =>
                go_wp2_with (at_builtin; refine wpList_append_srcN rfl (.tmp 90) (.tmp 92) rfl Try.underlying23 Try.info27 rfl (by decide) _ l.length (rowCells (l.map (·.1))) rfl (Oa.turn_no ((T10).alloc _)) _ 1 (rowCells [⟨5, A.n, .slice Xa N Xc, XB⟩]) rfl ?src ?b ?m ?_)
                case src =>
                  refine src_put' (e := 27) Try.underlying23 _ _ ⟨5, A.n, .slice Xa N Xc, XB⟩ rfl ?_
                  have hh := heap_alloc_new (w9.alloc (.cells #[.int .u64 (val (5) B.n YB).1, .slice vb1 vb2 vb3] 33)) (.cells #[.int .i64 (5), .int .u64 A.n, .slice Xa N Xc] 27)
                  simpa using hh
                case b => omega
                case m => unfold maxLen; omega
                intro v1 w11 O1 G1
                have Y11 := G1.turn.obj ((((Turn.refl no w9).alloc _).alloc _).obj Y9 (fun q => q)) (fun q => by have := Oa.lt q; omega)
                clear x0 x1 x2 y0 y1 y2
                have y0 := row_cell' Y11 0 _ rfl
                have y1 := row_cell' Y11 1 _ rfl
                have y2 := row_cell' Y11 2 _ rfl
                have yl11 : wr.heap.size + 1 < w11.heap.size := lt_of_obj Y11
                have Ob1 : OwnN w11 27 3 u4 l.length (rowCells (l.map (·.2))) := (Ob.turn_no ((T10).alloc _)).turn G1.turn (fun g q1 q2 => (fa g q2).2 q1)
                go_wp2_with (at_builtin; refine wpList_append_srcN rfl (.tmp 94) (.tmp 96) rfl Try.underlying23 Try.info27 rfl (by decide) _ l.length (rowCells (l.map (·.2))) rfl (Ob1.turn_no ((Turn.refl no w11).alloc _)) _ 1 (rowCells [⟨5, B.n, .slice Ya N Yc, YB⟩]) rfl ?src ?b ?m ?_)
                case src =>
                  refine src_put' (e := 27) Try.underlying23 _ _ ⟨5, B.n, .slice Ya N Yc, YB⟩ rfl ?_
                  have hh := heap_alloc_new w11 (.cells #[.int .i64 (5), .int .u64 B.n, .slice Ya N Yc] 27)
                  simpa using hh
                case b => omega
                case m => unfold maxLen; omega
                intro v2 w12 O2 G2
                obtain ⟨O1', fa', fb', TT⟩ := two_grew T ((T10).alloc _) Oa Ob fa fb O1 G1 O2 G2
                go_wp2_with fail
                go_roundw
                case rel =>
                  refine ⟨k + 1, l ++ [(⟨5, A.n, .slice Xa N Xc, XB⟩, ⟨5, B.n, .slice Ya N Yc, YB⟩)], by omega, by go_num, by simp; omega, ?_, ?_, ?_, ?_, fa', fb', TT⟩
                  · intro p hp
                    rcases List.mem_append.1 hp with hp | hp
                    · exact hpair p hp
                    · cases List.mem_singleton.1 hp; exact ⟨hpr mx my, BX, BY, by show XB.length ≤ _; omega, by show YB.length ≤ _; omega⟩
                  · rw [hals, hal, Bool.false_and]
                  · rw [List.map_append, rowCells_app, List.length_append]; exact O1'
                  · rw [List.map_append, rowCells_app, List.length_append]; exact O2
                case measure => simp [intOf]; omega
              | true =>
                by_cases hN : (val (5) A.n XB).1 = (val (5) B.n YB).1
                · have hN' : ((((val (5) A.n XB).1 : Nat) : Int) == (((val (5) B.n YB).1 : Nat) : Int)) = true := by rw [hN]; simp
                  have S1 := hbvx _ (BX.turn_no (T.then_no T10))
                  have S2 := hbvy _ (BY.turn_no (T.then_no T10))
                  go_wp2_with fail
                  refine (same_any _ _ _ _ _ S1 S2).mono ?_
                  rintro e w' ⟨rfl, n10, rfl⟩
                  go_wp2_with (at_builtin; refine wpList_append_srcN rfl (.tmp 90) (.tmp 92) rfl Try.underlying23 Try.info27 rfl (by decide) _ l.length (rowCells (l.map (·.1))) rfl (Oa.turn_no ((T10.drewN n10).alloc _)) _ 1 (rowCells [⟨5, A.n, .slice Xa N Xc, XB⟩]) rfl ?src ?b ?m ?_)
                  case src =>
                    refine src_put' (e := 27) Try.underlying23 _ _ ⟨5, A.n, .slice Xa N Xc, XB⟩ rfl ?_
                    have hh := heap_alloc_new ((w9.alloc (.cells #[.int .u64 (val (5) B.n YB).1, .slice vb1 vb2 vb3] 33)).drewN n10) (.cells #[.int .i64 (5), .int .u64 A.n, .slice Xa N Xc] 27)
                    simpa using hh
                  case b => omega
                  case m => unfold maxLen; omega
                  intro v1 w11 O1 G1
                  have Y11 := G1.turn.obj (((((Turn.refl no w9).alloc _).drewN n10).alloc _).obj Y9 (fun q => q)) (fun q => by have := Oa.lt q; omega)
                  clear x0 x1 x2 y0 y1 y2
                  have y0 := row_cell' Y11 0 _ rfl
                  have y1 := row_cell' Y11 1 _ rfl
                  have y2 := row_cell' Y11 2 _ rfl
                  have yl11 : wr.heap.size + 1 < w11.heap.size := lt_of_obj Y11
                  have Ob1 : OwnN w11 27 3 u4 l.length (rowCells (l.map (·.2))) := (Ob.turn_no ((T10.drewN n10).alloc _)).turn G1.turn (fun g q1 q2 => (fa g q2).2 q1)
                  go_wp2_with (at_builtin; refine wpList_append_srcN rfl (.tmp 94) (.tmp 96) rfl Try.underlying23 Try.info27 rfl (by decide) _ l.length (rowCells (l.map (·.2))) rfl (Ob1.turn_no ((Turn.refl no w11).alloc _)) _ 1 (rowCells [⟨5, B.n, .slice Ya N Yc, YB⟩]) rfl ?src ?b ?m ?_)
                  case src =>
                    refine src_put' (e := 27) Try.underlying23 _ _ ⟨5, B.n, .slice Ya N Yc, YB⟩ rfl ?_
                    have hh := heap_alloc_new w11 (.cells #[.int .i64 (5), .int .u64 B.n, .slice Ya N Yc] 27)
                    simpa using hh
                  case b => omega
                  case m => unfold maxLen; omega
                  intro v2 w12 O2 G2
                  obtain ⟨O1', fa', fb', TT⟩ := two_grew T ((T10.drewN n10).alloc _) Oa Ob fa fb O1 G1 O2 G2
                  go_wp2_with fail
                  go_roundw
                  case rel =>
                    refine ⟨k + 1, l ++ [(⟨5, A.n, .slice Xa N Xc, XB⟩, ⟨5, B.n, .slice Ya N Yc, YB⟩)], by omega, by go_num, by simp; omega, ?_, ?_, ?_, ?_, fa', fb', TT⟩
                    · intro p hp
                      rcases List.mem_append.1 hp with hp | hp
                      · exact hpair p hp
                      · cases List.mem_singleton.1 hp; exact ⟨hpr mx my, BX, BY, by show XB.length ≤ _; omega, by show YB.length ≤ _; omega⟩
                    · rw [hals, hal, Bool.true_and, hN, beq_self_eq_true, Bool.true_and]
                    · rw [List.map_append, rowCells_app, List.length_append]; exact O1'
                    · rw [List.map_append, rowCells_app, List.length_append]; exact O2
                  case measure => simp [intOf]; omega
                · have hN' : ((((val (5) A.n XB).1 : Nat) : Int) == (((val (5) B.n YB).1 : Nat) : Int)) = false := by simp; omega
                  go_wp2_with (at_builtin; refine wpList_append_srcN rfl (.tmp 90) (.tmp 92) rfl Try.underlying23 Try.info27 rfl (by decide) _ l.length (rowCells (l.map (·.1))) rfl (Oa.turn_no ((T10).alloc _)) _ 1 (rowCells [⟨5, A.n, .slice Xa N Xc, XB⟩]) rfl ?src ?b ?m ?_)
                  case src =>
                    refine src_put' (e := 27) Try.underlying23 _ _ ⟨5, A.n, .slice Xa N Xc, XB⟩ rfl ?_
                    have hh := heap_alloc_new (w9.alloc (.cells #[.int .u64 (val (5) B.n YB).1, .slice vb1 vb2 vb3] 33)) (.cells #[.int .i64 (5), .int .u64 A.n, .slice Xa N Xc] 27)
                    simpa using hh
                  case b => omega
                  case m => unfold maxLen; omega
                  intro v1 w11 O1 G1
                  have Y11 := G1.turn.obj ((((Turn.refl no w9).alloc _).alloc _).obj Y9 (fun q => q)) (fun q => by have := Oa.lt q; omega)
                  clear x0 x1 x2 y0 y1 y2
                  have y0 := row_cell' Y11 0 _ rfl
                  have y1 := row_cell' Y11 1 _ rfl
                  have y2 := row_cell' Y11 2 _ rfl
                  have yl11 : wr.heap.size + 1 < w11.heap.size := lt_of_obj Y11
                  have Ob1 : OwnN w11 27 3 u4 l.length (rowCells (l.map (·.2))) := (Ob.turn_no ((T10).alloc _)).turn G1.turn (fun g q1 q2 => (fa g q2).2 q1)
                  go_wp2_with (at_builtin; refine wpList_append_srcN rfl (.tmp 94) (.tmp 96) rfl Try.underlying23 Try.info27 rfl (by decide) _ l.length (rowCells (l.map (·.2))) rfl (Ob1.turn_no ((Turn.refl no w11).alloc _)) _ 1 (rowCells [⟨5, B.n, .slice Ya N Yc, YB⟩]) rfl ?src ?b ?m ?_)
                  case src =>
                    refine src_put' (e := 27) Try.underlying23 _ _ ⟨5, B.n, .slice Ya N Yc, YB⟩ rfl ?_
                    have hh := heap_alloc_new w11 (.cells #[.int .i64 (5), .int .u64 B.n, .slice Ya N Yc] 27)
                    simpa using hh
                  case b => omega
                  case m => unfold maxLen; omega
                  intro v2 w12 O2 G2
                  obtain ⟨O1', fa', fb', TT⟩ := two_grew T ((T10).alloc _) Oa Ob fa fb O1 G1 O2 G2
                  go_wp2_with fail
                  go_roundw
                  case rel =>
                    refine ⟨k + 1, l ++ [(⟨5, A.n, .slice Xa N Xc, XB⟩, ⟨5, B.n, .slice Ya N Yc, YB⟩)], by omega, by go_num, by simp; omega, ?_, ?_, ?_, ?_, fa', fb', TT⟩
                    · intro p hp
                      rcases List.mem_append.1 hp with hp | hp
                      · exact hpair p hp
                      · cases List.mem_singleton.1 hp; exact ⟨hpr mx my, BX, BY, by show XB.length ≤ _; omega, by show YB.length ≤ _; omega⟩
                    · rw [hals, hal, Bool.true_and, beq_false_of_ne hN, Bool.false_and]
                    · rw [List.map_append, rowCells_app, List.length_append]; exact O1'
                    · rw [List.map_append, rowCells_app, List.length_append]; exact O2
                  case measure => simp [intOf]; omega
            · have my' : mayB ⟨5, B.n, .slice Ya N Yc, YB⟩ = false := by simpa using my
              rw [my'] at hmy
              refine (hmy _).mono ?_
              rintro e w6 ⟨rfl, t6⟩
              have TR := T5.then_no t6
              go_wp2_with fail
              go_roundw
              case rel => exact ⟨k + 1, l, by omega, by go_num, by omega, hpair, rfl, Oa.turn_no TR, Ob.turn_no TR, fa, fb, T.then_no TR⟩
              case measure => simp [intOf]; omega
          · have mx' : mayB ⟨5, A.n, .slice Xa N Xc, XB⟩ = false := by simpa using mx
            rw [mx'] at hmx
            refine hmx.mono ?_
            rintro e w5 ⟨rfl, t5⟩
            have TR := T4.then_no t5
            go_wp2_with fail
            go_roundw
            case rel => exact ⟨k + 1, l, by omega, by go_num, by omega, hpair, rfl, Oa.turn_no TR, Ob.turn_no TR, fa, fb, T.then_no TR⟩
            case measure => simp [intOf]; omega
      · have h5' : ((tk % 9) == 5) = false := by simpa using h5
        have BX := hA.2.2.2.2
        have BY := hB.2.2.2.2
        rw [hAv] at BX
        rw [hBv] at BY
        clear hAv hBv
        generalize A.B = XB at *
        generalize B.B = YB at *
        have hlen5 : tk % 9 % 9 = 5 → XB.length = YB.length := fun q => by omega
        have hxl : XB.length < 9223372036854775808 := by have := BX.le; unfold maxLen at this; omega
        have hyl : YB.length < 9223372036854775808 := by have := BY.le; unfold maxLen at this; omega
        go_wp2_with fail
        have T4 : Turn no wr ((wr.alloc (.cells #[.int .i64 (tk % 9), .int .u64 A.n, .slice Xa XB.length Xc] 27)).alloc (.cells #[.int .i64 (tk % 9), .int .u64 B.n, .slice Ya YB.length Yc] 27)) := ((Turn.refl no wr).alloc _).alloc _
        have X4 : ((wr.alloc (.cells #[.int .i64 (tk % 9), .int .u64 A.n, .slice Xa XB.length Xc] 27)).alloc (.cells #[.int .i64 (tk % 9), .int .u64 B.n, .slice Ya YB.length Yc] 27)).heap[wr.heap.size]? = some (.cells #[.int .i64 (tk % 9), .int .u64 A.n, .slice Xa XB.length Xc] 27 (0, 0)) := by rw [Below.heap_alloc _ _ _ (by simp)]; exact heap_alloc_new wr _
        have Y4 : ((wr.alloc (.cells #[.int .i64 (tk % 9), .int .u64 A.n, .slice Xa XB.length Xc] 27)).alloc (.cells #[.int .i64 (tk % 9), .int .u64 B.n, .slice Ya YB.length Yc] 27)).heap[wr.heap.size + 1]? = some (.cells #[.int .i64 (tk % 9), .int .u64 B.n, .slice Ya YB.length Yc] 27 (0, 0)) := by have := heap_alloc_new (wr.alloc (.cells #[.int .i64 (tk % 9), .int .u64 A.n, .slice Xa XB.length Xc] 27)) (.cells #[.int .i64 (tk % 9), .int .u64 B.n, .slice Ya YB.length Yc] 27); simpa using this
        generalize (wr.alloc (.cells #[.int .i64 (tk % 9), .int .u64 A.n, .slice Xa XB.length Xc] 27)).alloc (.cells #[.int .i64 (tk % 9), .int .u64 B.n, .slice Ya YB.length Yc] 27) = w4 at *
        have hmx := may_any w4 ⟨tk % 9, A.n, .slice Xa XB.length Xc, XB⟩ hA.2.2.2.1 Xa _ Xc rfl
        have hmy := fun W => may_any W ⟨tk % 9, B.n, .slice Ya YB.length Yc, YB⟩ hB.2.2.2.1 Ya _ Yc rfl
        have hvx := fun W => value_any W ⟨tk % 9, A.n, .slice Xa XB.length Xc, XB⟩ hA.2.2.2.1 Xa _ Xc rfl
        have hvy := fun W => value_any W ⟨tk % 9, B.n, .slice Ya YB.length Yc, YB⟩ hB.2.2.2.1 Ya _ Yc rfl
        have hpr : mayB ⟨tk % 9, A.n, .slice Xa XB.length Xc, XB⟩ = true → mayB ⟨tk % 9, B.n, .slice Ya YB.length Yc, YB⟩ = true → Pair ⟨tk % 9, A.n, .slice Xa XB.length Xc, XB⟩ ⟨tk % 9, B.n, .slice Ya YB.length Yc, YB⟩ := fun m1 m2 => ⟨rfl, hlen5, m1, m2, hA.2.2.2.1, hB.2.2.2.1, hxl, hyl⟩
        obtain ⟨va1, va2, va3, hvva⟩ := valV_form ⟨tk % 9, A.n, .slice Xa XB.length Xc, XB⟩ Xa _ Xc rfl
        obtain ⟨vb1, vb2, vb3, hvvb⟩ := valV_form ⟨tk % 9, B.n, .slice Ya YB.length Yc, YB⟩ Ya _ Yc rfl
        have hbvx := fun W (h : Bs W (.slice Xa XB.length Xc) XB) => val_bs (x := ⟨tk % 9, A.n, .slice Xa XB.length Xc, XB⟩) h
        have hbvy := fun W (h : Bs W (.slice Ya YB.length Yc) YB) => val_bs (x := ⟨tk % 9, B.n, .slice Ya YB.length Yc, YB⟩) h
        rw [hvva] at hvx hbvx
        rw [hvvb] at hvy hbvy
        have hals := alike_snoc l ⟨tk % 9, A.n, .slice Xa XB.length Xc, XB⟩ ⟨tk % 9, B.n, .slice Ya YB.length Yc, YB⟩
        simp only at hmx hmy hvx hvy hbvx hbvy hals
        by_cases mx : mayB ⟨tk % 9, A.n, .slice Xa XB.length Xc, XB⟩ = true
        · rw [mx] at hmx
          refine hmx.mono ?_
          rintro e w5 ⟨rfl, t5⟩
          have T5 := T4.then_no t5
          have Y5 := t5.obj Y4 (fun q => q)
          have X5 := t5.obj X4 (fun q => q)
          have y0 := row_cell' Y5 0 _ rfl
          have y1 := row_cell' Y5 1 _ rfl
          have y2 := row_cell' Y5 2 _ rfl
          go_wp2_with fail
          by_cases my : mayB ⟨tk % 9, B.n, .slice Ya YB.length Yc, YB⟩ = true
          · rw [my] at hmy
            refine (hmy _).mono ?_
            rintro e w6 ⟨rfl, t6⟩
            have T6 := T5.then_no t6
            have Y6 := t6.obj Y5 (fun q => q)
            have X6 := t6.obj X5 (fun q => q)
            clear y0 y1 y2
            have x0 := row_cell' X6 0 _ rfl
            have x1 := row_cell' X6 1 _ rfl
            have x2 := row_cell' X6 2 _ rfl
            go_wp2_with fail
            refine (hvx _).mono ?_
            rintro e w7 ⟨rfl, t7⟩
            have T7 := T6.then_no t7
            have Y7 := t7.obj Y6 (fun q => q)
            have X7 := t7.obj X6 (fun q => q)
            clear x0 x1 x2
            have y0 := row_cell' Y7 0 _ rfl
            have y1 := row_cell' Y7 1 _ rfl
            have y2 := row_cell' Y7 2 _ rfl
            have yl : wr.heap.size + 1 < w7.heap.size := lt_of_obj Y7
            go_wp2_with fail
            refine (hvy _).mono ?_
            rintro e w9 ⟨rfl, t9⟩
            have T8 := T7.alloc (.cells #[.int .u64 (val (tk % 9) A.n XB).1, .slice va1 va2 va3] 33)
            have T9 := T8.then_no t9
            have V9 := t9.obj (heap_alloc_new w7 _) (fun q => q)
            have v0 := row_cell' V9 0 _ rfl
            have v1 := row_cell' V9 1 _ rfl
            have T10 := T9.alloc (.cells #[.int .u64 (val (tk % 9) B.n YB).1, .slice vb1 vb2 vb3] 33)
            have X9 := (t7.trans (S := no) (S' := no) ((Turn.refl no w7).alloc (.cells #[.int .u64 (val (tk % 9) A.n XB).1, .slice va1 va2 va3] 33)) (fun _ _ q => q)).then_no t9 |>.obj X6 (fun q => q)
            have Y9 := ((Turn.refl no w7).alloc (.cells #[.int .u64 (val (tk % 9) A.n XB).1, .slice va1 va2 va3] 33)).then_no t9 |>.obj Y7 (fun q => q)
            have x0 := row_cell' X9 0 _ rfl
            have x1 := row_cell' X9 1 _ rfl
            have x2 := row_cell' X9 2 _ rfl
            have xl : wr.heap.size < w9.heap.size := lt_of_obj X9
            have yl9 : wr.heap.size + 1 < w9.heap.size := lt_of_obj Y9
            have vl9 : w7.heap.size < w9.heap.size := lt_of_obj V9
            clear y0 y1 y2
            have y0 := row_cell' Y9 0 _ rfl
            have y1 := row_cell' Y9 1 _ rfl
            have y2 := row_cell' Y9 2 _ rfl
            cases hal : alike l with
            | false =>
              go_wp2_with (at_builtin; refine wpList_append_srcN rfl (.tmp 90) (.tmp 92) rfl Try.underlying23 Try.info27 rfl (by decide) _ l.length (rowCells (l.map (·.1))) rfl (Oa.turn_no ((T10).alloc _)) _ 1 (rowCells [⟨tk % 9, A.n, .slice Xa XB.length Xc, XB⟩]) rfl ?src ?b ?m ?_)
              case src =>
                refine src_put' (e := 27) Try.underlying23 _ _ ⟨tk % 9, A.n, .slice Xa XB.length Xc, XB⟩ rfl ?_
                have hh := heap_alloc_new (w9.alloc (.cells #[.int .u64 (val (tk % 9) B.n YB).1, .slice vb1 vb2 vb3] 33)) (.cells #[.int .i64 (tk % 9), .int .u64 A.n, .slice Xa XB.length Xc] 27)
                simpa using hh
              case b => omega
              case m => unfold maxLen; omega
              intro v1 w11 O1 G1
              have Y11 := G1.turn.obj ((((Turn.refl no w9).alloc _).alloc _).obj Y9 (fun q => q)) (fun q => by have := Oa.lt q; omega)
              clear x0 x1 x2 y0 y1 y2
              have y0 := row_cell' Y11 0 _ rfl
              have y1 := row_cell' Y11 1 _ rfl
              have y2 := row_cell' Y11 2 _ rfl
              have yl11 : wr.heap.size + 1 < w11.heap.size := lt_of_obj Y11
              have Ob1 : OwnN w11 27 3 u4 l.length (rowCells (l.map (·.2))) := (Ob.turn_no ((T10).alloc _)).turn G1.turn (fun g q1 q2 => (fa g q2).2 q1)
              go_wp2_with (at_builtin; refine wpList_append_srcN rfl (.tmp 94) (.tmp 96) rfl Try.underlying23 Try.info27 rfl (by decide) _ l.length (rowCells (l.map (·.2))) rfl (Ob1.turn_no ((Turn.refl no w11).alloc _)) _ 1 (rowCells [⟨tk % 9, B.n, .slice Ya YB.length Yc, YB⟩]) rfl ?src ?b ?m ?_)
              case src =>
                refine src_put' (e := 27) Try.underlying23 _ _ ⟨tk % 9, B.n, .slice Ya YB.length Yc, YB⟩ rfl ?_
                have hh := heap_alloc_new w11 (.cells #[.int .i64 (tk % 9), .int .u64 B.n, .slice Ya YB.length Yc] 27)
                simpa using hh
              case b => omega
              case m => unfold maxLen; omega
              intro v2 w12 O2 G2
              obtain ⟨O1', fa', fb', TT⟩ := two_grew T ((T10).alloc _) Oa Ob fa fb O1 G1 O2 G2
              go_wp2_with fail
              go_roundw
              case rel =>
                refine ⟨k + 1, l ++ [(⟨tk % 9, A.n, .slice Xa XB.length Xc, XB⟩, ⟨tk % 9, B.n, .slice Ya YB.length Yc, YB⟩)], by omega, by go_num, by simp; omega, ?_, ?_, ?_, ?_, fa', fb', TT⟩
                · intro p hp
                  rcases List.mem_append.1 hp with hp | hp
                  · exact hpair p hp
                  · cases List.mem_singleton.1 hp; exact ⟨hpr mx my, BX, BY, by show XB.length ≤ _; omega, by show YB.length ≤ _; omega⟩
                · rw [hals, hal, Bool.false_and]
                · rw [List.map_append, rowCells_app, List.length_append]; exact O1'
                · rw [List.map_append, rowCells_app, List.length_append]; exact O2
              case measure => simp [intOf]; omega
            | true =>
              by_cases hN : (val (tk % 9) A.n XB).1 = (val (tk % 9) B.n YB).1
              · have hN' : ((((val (tk % 9) A.n XB).1 : Nat) : Int) == (((val (tk % 9) B.n YB).1 : Nat) : Int)) = true := by rw [hN]; simp
                have S1 := hbvx _ (BX.turn_no (T.then_no T10))
                have S2 := hbvy _ (BY.turn_no (T.then_no T10))
                go_wp2_with fail
                refine (same_any _ _ _ _ _ S1 S2).mono ?_
                rintro e w' ⟨rfl, n10, rfl⟩
                go_wp2_with (at_builtin; refine wpList_append_srcN rfl (.tmp 90) (.tmp 92) rfl Try.underlying23 Try.info27 rfl (by decide) _ l.length (rowCells (l.map (·.1))) rfl (Oa.turn_no ((T10.drewN n10).alloc _)) _ 1 (rowCells [⟨tk % 9, A.n, .slice Xa XB.length Xc, XB⟩]) rfl ?src ?b ?m ?_)
                case src =>
                  refine src_put' (e := 27) Try.underlying23 _ _ ⟨tk % 9, A.n, .slice Xa XB.length Xc, XB⟩ rfl ?_
                  have hh := heap_alloc_new ((w9.alloc (.cells #[.int .u64 (val (tk % 9) B.n YB).1, .slice vb1 vb2 vb3] 33)).drewN n10) (.cells #[.int .i64 (tk % 9), .int .u64 A.n, .slice Xa XB.length Xc] 27)
                  simpa using hh
                case b => omega
                case m => unfold maxLen; omega
                intro v1 w11 O1 G1
                have Y11 := G1.turn.obj (((((Turn.refl no w9).alloc _).drewN n10).alloc _).obj Y9 (fun q => q)) (fun q => by have := Oa.lt q; omega)
                clear x0 x1 x2 y0 y1 y2
                have y0 := row_cell' Y11 0 _ rfl
                have y1 := row_cell' Y11 1 _ rfl
                have y2 := row_cell' Y11 2 _ rfl
                have yl11 : wr.heap.size + 1 < w11.heap.size := lt_of_obj Y11
                have Ob1 : OwnN w11 27 3 u4 l.length (rowCells (l.map (·.2))) := (Ob.turn_no ((T10.drewN n10).alloc _)).turn G1.turn (fun g q1 q2 => (fa g q2).2 q1)
                go_wp2_with (at_builtin; refine wpList_append_srcN rfl (.tmp 94) (.tmp 96) rfl Try.underlying23 Try.info27 rfl (by decide) _ l.length (rowCells (l.map (·.2))) rfl (Ob1.turn_no ((Turn.refl no w11).alloc _)) _ 1 (rowCells [⟨tk % 9, B.n, .slice Ya YB.length Yc, YB⟩]) rfl ?src ?b ?m ?_)
                case src =>
                  refine src_put' (e := 27) Try.underlying23 _ _ ⟨tk % 9, B.n, .slice Ya YB.length Yc, YB⟩ rfl ?_
                  have hh := heap_alloc_new w11 (.cells #[.int .i64 (tk % 9), .int .u64 B.n, .slice Ya YB.length Yc] 27)
                  simpa using hh
                case b => omega
                case m => unfold maxLen; omega
                intro v2 w12 O2 G2
                obtain ⟨O1', fa', fb', TT⟩ := two_grew T ((T10.drewN n10).alloc _) Oa Ob fa fb O1 G1 O2 G2
                go_wp2_with fail
                go_roundw
                case rel =>
                  refine ⟨k + 1, l ++ [(⟨tk % 9, A.n, .slice Xa XB.length Xc, XB⟩, ⟨tk % 9, B.n, .slice Ya YB.length Yc, YB⟩)], by omega, by go_num, by simp; omega, ?_, ?_, ?_, ?_, fa', fb', TT⟩
                  · intro p hp
                    rcases List.mem_append.1 hp with hp | hp
                    · exact hpair p hp
                    · cases List.mem_singleton.1 hp; exact ⟨hpr mx my, BX, BY, by show XB.length ≤ _; omega, by show YB.length ≤ _; omega⟩
                  · rw [hals, hal, Bool.true_and, hN, beq_self_eq_true, Bool.true_and]
                  · rw [List.map_append, rowCells_app, List.length_append]; exact O1'
                  · rw [List.map_append, rowCells_app, List.length_append]; exact O2
                case measure => simp [intOf]; omega
              · have hN' : ((((val (tk % 9) A.n XB).1 : Nat) : Int) == (((val (tk % 9) B.n YB).1 : Nat) : Int)) = false := by simp; omega
                go_wp2_with (at_builtin; refine wpList_append_srcN rfl (.tmp 90) (.tmp 92) rfl Try.underlying23 Try.info27 rfl (by decide) _ l.length (rowCells (l.map (·.1))) rfl (Oa.turn_no ((T10).alloc _)) _ 1 (rowCells [⟨tk % 9, A.n, .slice Xa XB.length Xc, XB⟩]) rfl ?src ?b ?m ?_)
                case src =>
                  refine src_put' (e := 27) Try.underlying23 _ _ ⟨tk % 9, A.n, .slice Xa XB.length Xc, XB⟩ rfl ?_
                  have hh := heap_alloc_new (w9.alloc (.cells #[.int .u64 (val (tk % 9) B.n YB).1, .slice vb1 vb2 vb3] 33)) (.cells #[.int .i64 (tk % 9), .int .u64 A.n, .slice Xa XB.length Xc] 27)
                  simpa using hh
                case b => omega
                case m => unfold maxLen; omega
                intro v1 w11 O1 G1
                have Y11 := G1.turn.obj ((((Turn.refl no w9).alloc _).alloc _).obj Y9 (fun q => q)) (fun q => by have := Oa.lt q; omega)
                clear x0 x1 x2 y0 y1 y2
                have y0 := row_cell' Y11 0 _ rfl
                have y1 := row_cell' Y11 1 _ rfl
                have y2 := row_cell' Y11 2 _ rfl
                have yl11 : wr.heap.size + 1 < w11.heap.size := lt_of_obj Y11
                have Ob1 : OwnN w11 27 3 u4 l.length (rowCells (l.map (·.2))) := (Ob.turn_no ((T10).alloc _)).turn G1.turn (fun g q1 q2 => (fa g q2).2 q1)
                go_wp2_with (at_builtin; refine wpList_append_srcN rfl (.tmp 94) (.tmp 96) rfl Try.underlying23 Try.info27 rfl (by decide) _ l.length (rowCells (l.map (·.2))) rfl (Ob1.turn_no ((Turn.refl no w11).alloc _)) _ 1 (rowCells [⟨tk % 9, B.n, .slice Ya YB.length Yc, YB⟩]) rfl ?src ?b ?m ?_)
                case src =>
                  refine src_put' (e := 27) Try.underlying23 _ _ ⟨tk % 9, B.n, .slice Ya YB.length Yc, YB⟩ rfl ?_
                  have hh := heap_alloc_new w11 (.cells #[.int .i64 (tk % 9), .int .u64 B.n, .slice Ya YB.length Yc] 27)
                  simpa using hh
                case b => omega
                case m => unfold maxLen; omega
                intro v2 w12 O2 G2
                obtain ⟨O1', fa', fb', TT⟩ := two_grew T ((T10).alloc _) Oa Ob fa fb O1 G1 O2 G2
                go_wp2_with fail
                go_roundw
                case rel =>
                  refine ⟨k + 1, l ++ [(⟨tk % 9, A.n, .slice Xa XB.length Xc, XB⟩, ⟨tk % 9, B.n, .slice Ya YB.length Yc, YB⟩)], by omega, by go_num, by simp; omega, ?_, ?_, ?_, ?_, fa', fb', TT⟩
                  · intro p hp
                    rcases List.mem_append.1 hp with hp | hp
                    · exact hpair p hp
                    · cases List.mem_singleton.1 hp; exact ⟨hpr mx my, BX, BY, by show XB.length ≤ _; omega, by show YB.length ≤ _; omega⟩
                  · rw [hals, hal, Bool.true_and, beq_false_of_ne hN, Bool.false_and]
                  · rw [List.map_append, rowCells_app, List.length_append]; exact O1'
                  · rw [List.map_append, rowCells_app, List.length_append]; exact O2
                case measure => simp [intOf]; omega
          · have my' : mayB ⟨tk % 9, B.n, .slice Ya YB.length Yc, YB⟩ = false := by simpa using my
            rw [my'] at hmy
            refine (hmy _).mono ?_
            rintro e w6 ⟨rfl, t6⟩
            have TR := T5.then_no t6
            go_wp2_with fail
            go_roundw
            case rel => exact ⟨k + 1, l, by omega, by go_num, by omega, hpair, rfl, Oa.turn_no TR, Ob.turn_no TR, fa, fb, T.then_no TR⟩
            case measure => simp [intOf]; omega
        · have mx' : mayB ⟨tk % 9, A.n, .slice Xa XB.length Xc, XB⟩ = false := by simpa using mx
          rw [mx'] at hmx
          refine hmx.mono ?_
          rintro e w5 ⟨rfl, t5⟩
          have TR := T4.then_no t5
          go_wp2_with fail
          go_roundw
          case rel => exact ⟨k + 1, l, by omega, by go_num, by omega, hpair, rfl, Oa.turn_no TR, Ob.turn_no TR, fa, fb, T.then_no TR⟩
          case measure => simp [intOf]; omega
    · have hkl : k = ts.length := by omega
      subst hkl
      have hlt' : ¬ ((ts.length : Int) < (ts.length : Int)) := by omega
      have Pa : Ps wr u3 (l.map (·.1)) := own_ps (by rw [List.length_map]; exact Oa) (fun x hx => by
        obtain ⟨p, hp, rfl⟩ := List.mem_map.1 hx
        exact ⟨(hpair p hp).1.2.2.2.2.1, (hpair p hp).2.1.turn_no T⟩)
      have hb2 : ∀ W, Turn no w W → ∀ x ∈ l.map (·.2), x.n < 18446744073709551616 ∧ Bs W x.vb x.B := fun W t x hx => by
        obtain ⟨p, hp, rfl⟩ := List.mem_map.1 hx
        exact ⟨(hpair p hp).1.2.2.2.2.2.1, (hpair p hp).2.2.1.turn_no t⟩
      have ra : roomAll (l.map (·.1)) + 20 ≤ 140737488355328 := by
        have := room_le (l.map (·.1)) (fun x hx => by obtain ⟨p, hp, rfl⟩ := List.mem_map.1 hx; exact (hpair p hp).2.2.2.1)
        rw [List.length_map] at this
        omega
      have rb : roomAll (l.map (·.2)) + 20 ≤ 140737488355328 := by
        have := room_le (l.map (·.2)) (fun x hx => by obtain ⟨p, hp, rfl⟩ := List.mem_map.1 hx; exact (hpair p hp).2.2.2.2)
        rw [List.length_map] at this
        omega
      have hsame := alike_same l (fun p hp => (hpair p hp).1)
      have hbeg := fun r s => begin_alike l r s (fun p hp => (hpair p hp).1)
      have la := laidAll_le (l.map (·.1))
      have lb := laidAll_le (l.map (·.2))
      have call1 := fun W (h : Ps W u3 (l.map (·.1))) => all_any W u3 (l.map (·.1)) h ra
      have call2 := fun W (h : Ps W u4 (l.map (·.2))) => all_any W u4 (l.map (·.2)) h rb
      obtain ⟨ua, uc, hu3, _⟩ := Oa.form
      obtain ⟨va, vc, hu4, _⟩ := Ob.form
      clear hat hsz hpair
      generalize laidAll (l.map (·.1)) = C at *
      generalize laidAll (l.map (·.2)) = D at *
      have p2 := fun W (t : Turn no wr W) => (own_ps (by rw [List.length_map]; exact Ob.turn_no t) (hb2 W (T.then_no t)) : Ps W u4 (l.map (·.2)))
      have c1 := call1 wr Pa
      have c2 := fun W (t : Turn no wr W) => call2 W (p2 W t)
      clear call1 call2 p2 hb2 Pa Oa Ob fa fb
      subst hu3 hu4
      cases hal : alike l with
      | true =>
        have he := hsame hal
        subst he
        clear hsame hbeg hal la lb ra rb hlk
        go_wp2_with fail
        refine c1.mono ?_
        rintro e w1 ⟨v1, rfl, O1, f1, t1⟩
        have B1 := O1.bs
        obtain ⟨a1, k1, hv1⟩ := B1.slice
        subst hv1
        go_wp2_with fail
        refine (c2 _ t1).mono ?_
        rintro e w2 ⟨v2, rfl, O2, f2, t2⟩
        have B2 := O2.bs
        obtain ⟨a2, k2, hv2⟩ := B2.slice
        subst hv2
        have B1' := B1.turn_no t2
        have T2 := (T.then_no t1).then_no t2
        go_wp2_with fail
        refine (same_any _ _ _ _ _ B1' B2).mono ?_
        rintro e w' ⟨rfl, n3, rfl⟩
        have hbeq : (C == C) = true := by simp
        rw [hbeq]
        go_wp2_with fail
        go_ret
        exact ⟨rfl, T2.drewN _⟩
      | false =>
        have hne : (C.take (min C.length D.length) == D.take (min C.length D.length)) = false := by
          refine beq_false_of_ne (fun h => ?_)
          obtain ⟨r, s, q⟩ := take_begin _ _ h
          have := hbeg r s q
          rw [hal] at this
          cases this
        clear hsame hbeg hal la lb ra rb hlk
        go_wp2_with fail
        refine c1.mono ?_
        rintro e w1 ⟨v1, rfl, O1, f1, t1⟩
        have B1 := O1.bs
        obtain ⟨a1, k1, hv1⟩ := B1.slice
        subst hv1
        go_wp2_with fail
        refine (c2 _ t1).mono ?_
        rintro e w2 ⟨v2, rfl, O2, f2, t2⟩
        have B2 := O2.bs
        obtain ⟨a2, k2, hv2⟩ := B2.slice
        subst hv2
        have B1' := B1.turn_no t2
        have T2 := (T.then_no t1).then_no t2
        have cX := bs_cap B1'
        have cY := bs_cap B2
        by_cases hle : D.length < C.length
        · rw [Nat.min_eq_right (by omega)] at hne
          have cX' : D.length ≤ k1 := by omega
          have S1 := bs_cut B1' D.length (by omega)
          have S2 := bs_cut B2 D.length (by omega)
          go_wp2_with fail
          go_quiet ((first | (go_at_call 12; exact same_q0 _ _ _ _ _ false _ S1 S2 hne)))
          go_wp2_with fail
          go_ret
          exact ⟨rfl, T2.drewN _⟩
        · rw [Nat.min_eq_left (by omega)] at hne
          have hle' : C.length ≤ D.length := by omega
          have cY' : C.length ≤ k2 := by omega
          have S1 := bs_cut B1' C.length (by omega)
          have S2 := bs_cut B2 C.length (by omega)
          go_wp2_with fail
          go_quiet ((first | (go_at_call 12; exact same_q0 _ _ _ _ _ false _ S1 S2 hne)))
          go_wp2_with fail
          go_ret
          exact ⟨rfl, T2.drewN _⟩
end Go.Proofs.Ytfjdojodbhmmaaa
