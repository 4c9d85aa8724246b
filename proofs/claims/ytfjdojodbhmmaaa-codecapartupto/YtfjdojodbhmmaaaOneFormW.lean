/- The walk of CodecOneForm. -/
import Derived.Test.YtfjdojodbhmmaaaAgain
import Derived.Test.YtfjdojodbhmmaaaP1
import Derived.Test.YtfjdojodbhmmaaaRoomW
namespace Go.Proofs.Ytfjdojodbhmmaaa
open Go.RowKit
set_option linter.unusedVariables false

theorem slice_upto {w : World} {v : Value} {bs : List UInt8} (hb : Bs w v bs) (h : Nat) (hh : h ≤ bs.length) :
    ∃ v2, (∀ w', (Instr.slice 25 v none (some (.int .i64 h)) none).run Try.prog w' = .ok v2 w') ∧ Bs w v2 (bs.take h) ∧ (∀ g, v2.ownBlock = some g → v.ownBlock = some g) := by
  rcases hb with ⟨rfl, rfl⟩ | ⟨a, c, rfl, h1, h2, h3⟩
  · simp at hh
    subst hh
    refine ⟨.slice none 0 0, fun w' => ?_, Or.inl ⟨rfl, rfl⟩, fun g q => q⟩
    simp [go_sem, Try.underlying25]
  · refine ⟨.slice (if c = 0 then some a else some (a.add 0)) (h - 0) (c - 0), fun w' => ?_, ?_, fun g q => ?_⟩
    · have : (h : Int) ≤ (c : Int) := by omega
      simp [go_sem, Try.underlying25, this]
    · have := piece h1 h2 h3 0 h (Nat.zero_le _) hh
      rwa [List.drop_zero] at this
    · split at q
      · exact q
      · simp only [Value.ownBlock, add_block] at q
        exact q

theorem rget_stays (bs : List UInt8) (i : Nat) (k a b : Int) (h : (rget bs i k a b).2.2.2 ≠ 0) : (rget bs i k a b).2.2.1 = i := by
  have hk : k % 9 = 0 ∨ k % 9 = 1 ∨ k % 9 = 2 ∨ k % 9 = 3 ∨ k % 9 = 4 ∨ k % 9 = 5 ∨ k % 9 = 6 ∨ k % 9 = 7 ∨ k % 9 = 8 := by omega
  have hfix : ∀ n, (rfix bs i n).2.2 ≠ 0 → (rfix bs i n).2.1 = i := by
    intro n hn
    unfold rfix at hn ⊢
    split
    · rfl
    · rename_i q; rw [if_neg q] at hn; exact (hn rfl).elim
  have hvar : (rvar bs i).2.2 ≠ 0 → (rvar bs i).2.1 = i := by
    intro hn
    rcases rvar_cases bs i with ⟨s, hs, hv⟩ | ⟨er, her, h0, hv⟩
    · rw [hv] at hn; exact (hn rfl).elim
    · rw [hv]
  have hby : ∀ m, (rbytes bs i m).2.2 ≠ 0 → (rbytes bs i m).2.1 = i := by
    intro m hn
    unfold rbytes at hn ⊢
    split
    · rfl
    · rename_i q1
      rw [if_neg q1] at hn
      split
      · rfl
      · rename_i q2
        rw [if_neg q2] at hn
        split
        · rfl
        · rename_i q3
          rw [if_neg q3] at hn
          split
          · rfl
          · rename_i q4
            rw [if_neg q4] at hn
            exact (hn rfl).elim
  rcases hk with hk | hk | hk | hk | hk | hk | hk | hk | hk
  · rw [rget_0 hk] at h ⊢; exact hfix 1 h
  · rw [rget_1 hk] at h ⊢
    unfold rbool at h ⊢
    split
    · rfl
    · rename_i q1
      rw [if_neg q1] at h
      split
      · rfl
      · rename_i q2
        rw [if_neg q2] at h
        exact (h rfl).elim
  · rw [rget_2 hk] at h ⊢; exact hfix 4 h
  · rw [rget_3 hk] at h ⊢; exact hfix 8 h
  · rw [rget_4 hk] at h ⊢; exact hvar h
  · rw [rget_5 hk] at h ⊢
    unfold rraw at h ⊢
    split
    · rfl
    · rename_i q1
      rw [if_neg q1] at h
      split
      · rfl
      · rename_i q2
        rw [if_neg q2] at h
        exact (h rfl).elim
  · rw [rget_6 hk] at h ⊢; exact hby a h
  · rw [rget_7 hk] at h ⊢; exact hby a h
  · rw [rget_8 hk] at h ⊢
    unfold rcount at h ⊢
    split
    · rfl
    · rename_i q1
      rw [if_neg q1] at h
      split
      · rfl
      · rename_i q2
        rw [if_neg q2] at h
        split
        · rfl
        · rename_i q3
          rw [if_neg q3] at h
          split
          · rfl
          · rename_i q4
            rw [if_neg q4] at h
            exact (h rfl).elim

theorem rget_lt (bs : List UInt8) (i : Nat) (k a b : Int) (ha : a < 9223372036854775808) : (rget bs i k a b).1 < 18446744073709551616 := by
  have hk : k % 9 = 0 ∨ k % 9 = 1 ∨ k % 9 = 2 ∨ k % 9 = 3 ∨ k % 9 = 4 ∨ k % 9 = 5 ∨ k % 9 = 6 ∨ k % 9 = 7 ∨ k % 9 = 8 := by omega
  have hfix : ∀ n, n ≤ 8 → (rfix bs i n).1 < 18446744073709551616 := by
    intro n hn
    unfold rfix
    split
    · simp
    · have h1 := lsum_lt (bs.drop i) n
      have h2 : 256 ^ n ≤ 256 ^ 8 := Nat.pow_le_pow_right (by omega) hn
      simp only
      omega
  rcases hk with hk | hk | hk | hk | hk | hk | hk | hk | hk
  · rw [rget_0 hk]; exact hfix 1 (by omega)
  · rw [rget_1 hk]
    unfold rbool
    split
    · simp
    · split
      · simp
      · simp only; omega
  · rw [rget_2 hk]; exact hfix 4 (by omega)
  · rw [rget_3 hk]; exact hfix 8 (by omega)
  · rw [rget_4 hk]
    rcases rvar_cases bs i with ⟨s, hs, hv⟩ | ⟨er, her, h0, hv⟩
    · rw [hv]; exact (vsum_fits hs s (Nat.le_refl _)).1
    · rw [hv]; simp
  · rw [rget_5 hk]; simp
  · rw [rget_6 hk]; simp
  · rw [rget_7 hk]; simp
  · rw [rget_8 hk]
    have := (rcount_lt (bs := bs) (i := i) (l := b) ha).2
    simp only
    omega

/-- A Reader and a Writer that have nothing in common, both newer than w. -/
structure Two (w wr : World) (p : Nat) (v : Value) (q : Nat) (vq : Value) (bs out : List UInt8) (i : Nat) (e : Int) : Prop where
  rd : Rd wr p v bs i e
  wt : Wr wr q vq out 0
  ap : ∀ k, wfoot q vq k → ¬ wfoot p v k
  nr : ∀ k, wfoot p v k → w.heap.size ≤ k
  nw : ∀ k, wfoot q vq k → w.heap.size ≤ k
  t : Turn no w wr

set_option maxRecDepth 100000 in
set_option maxHeartbeats 400000 in
theorem oneForm_none (w : World) (vb vl : Value) (bs : List UInt8) (gs : List (Int × Int × Int)) (hb : Bs w vb bs) (hg : Gs w vl gs) (hle : bs.length ≤ 140737488351232) (h0 : gs.length = 0) :
    Calls Try.prog 7 #[vb, vl] w fun e w' => e = .returned (.bool true) ∧ Turn no w w' := by
  obtain ⟨ba, bc, hbv⟩ := hb.slice
  obtain ⟨la, lc, hlv⟩ := hg.slice
  have e1 : gs = [] := List.eq_nil_of_length_eq_zero h0
  subst e1
  subst hlv
  subst hbv
  clear hg
  go_enter Try.func7, Try.ntmps7
  go_wp2_with fail
  refine (alive_any _).mono ?_
  rintro e w0 ⟨rfl, t0⟩
  go_wp2_with fail
  refine (newReader_any _ _ bs (hb.turn_no t0) (by omega)).mono ?_
  rintro e w1 ⟨p, v, rfl, r1, f1, t1⟩
  go_wp2_with fail
  refine (newWriter_any _).mono ?_
  rintro e w2 ⟨rfl, x2, t2⟩
  have R2 := r1.turn_no t2
  have T2 := (t0.then_no t1).then_no t2
  go_wp2_with fail
  go_loop [7] (fun c => c = .int .i64 0) (fun _ => 0)
  case atStart => rfl
  case round =>
    subst hrel
    go_wp2_with fail
    refine (out_made _ _ _ [] x2 (by simp)).mono ?_
    rintro e w7 ⟨v7, rfl, o7, f7, t7⟩
    have R7 := R2.turn_no t7
    have T7 := T2.then_no t7
    obtain ⟨a7, c7, hv7⟩ : ∃ a c, v7 = .slice a 0 c := o7.bs.slice
    have o8 := o7.bs
    subst hv7
    obtain ⟨vs, hsl, hbs, _⟩ := slice_upto (hb.turn_no T7) 0 (Nat.zero_le _)
    rw [List.take_zero] at hbs
    have hsl' : ∀ w', (Instr.slice 25 (.slice ba bs.length bc) none (some (.int .i64 0)) none).run Try.prog w' = .ok vs w' := hsl
    clear hsl
    go_wp2_with fail
    refine (num_any _ _).mono ?_
    rintro e w' ⟨rfl, rfl⟩
    go_wp2_with fail
    refine (at_made _ _ _ bs 0 0 R7).mono ?_
    rintro e w' ⟨rfl, rfl⟩
    go_wp2_with fail
    refine (same_any _ _ _ [] [] o8 hbs).mono ?_
    rintro e w' ⟨rfl, n8, rfl⟩
    go_wp2_with fail
    go_ret
    exact ⟨by simp, T7.drewN n8⟩

set_option maxRecDepth 100000 in
set_option maxHeartbeats 4000000 in
theorem oneForm_walk (w : World) (vb vl : Value) (bs : List UInt8) (gs : List (Int × Int × Int)) (hb : Bs w vb bs) (hg : Gs w vl gs) (hle : bs.length ≤ 140737488351232) :
    Calls Try.prog 7 #[vb, vl] w fun e w' => e = .returned (.bool true) ∧ Turn no w w' := by
  have hgl := hg.le
  unfold maxLen at hgl
  obtain ⟨ba, bc, hbv⟩ := hb.slice
  by_cases h0 : gs.length = 0
  · exact oneForm_none w vb vl bs gs hb hg hle h0
  · obtain ⟨lb, lo, lc, rfl, hlc, hcell⟩ := hg.at (by omega)
    clear hg
    subst hbv
    go_enter Try.func7, Try.ntmps7
    go_wp2_with fail
    refine (alive_any _).mono ?_
    rintro e w0 ⟨rfl, t0⟩
    go_wp2_with fail
    refine (newReader_any _ _ bs (hb.turn_no t0) (by omega)).mono ?_
    rintro e w1 ⟨p, v, rfl, r1, f1, t1⟩
    go_wp2_with fail
    refine (newWriter_any _).mono ?_
    rintro e w2 ⟨rfl, x2, t2⟩
    have hw0 := t0.size
    have hw1 := t1.size
    have hT2 : Two w w2 p v w1.heap.size (.slice none 0 0) bs [] 0 0 := by
      refine ⟨r1.turn_no t2, x2, ?_, fun k q => by have := f1 k q; omega, ?_, (t0.then_no t1).then_no t2⟩
      · rintro k (q | q) r
        · rcases r with r | r
          · have := r1.lt; omega
          · have := r1.own.lt r; omega
        · cases q
      · rintro k (q | q)
        · omega
        · cases q
    generalize w1.heap.size = q at *
    clear t0 t1 t2 x2 r1 f1 hw0 hw1
    go_wp2_with fail
    go_loopw [7] (fun c wr => ∃ (k i : Nat) (vq : Value), k ≤ gs.length ∧ c = .int .i64 k ∧ Two w wr p v q vq bs (bs.take i) i 0) (fun c _ => gs.length - (intOf c).toNat)
    case atStart => exact ⟨0, 0, _, Nat.zero_le _, rfl, by simpa using hT2⟩
    case round =>
      clear hT2
      obtain ⟨k, i, vq, hk, rfl, hT⟩ := hrel
      by_cases hlt : k < gs.length
      · obtain ⟨q0, q1, q2, qa, qb⟩ := hcell k gs[k] (by simp [hlt])
        generalize gs[k] = g at *
        obtain ⟨gk, ga, gb⟩ := g
        simp only at q0 q1 q2 qa qb
        have hlb : lb < w.heap.size := World.block_lt_of_cell? w ⟨lb, lo + k * 3, none⟩ q0
        have hlp : lb ≠ p := by have := hT.nr p (Or.inl rfl); omega
        have q0 := hT.t.keep q0 (fun q => q)
        have q1 := hT.t.keep q1 (fun q => q)
        have q2 := hT.t.keep q2 (fun q => q)
        have hlt' : (k : Int) < (gs.length : Int) := by omega
        have il := hT.rd.le
        go_wp2_with fail
        refine (at_made _ _ _ bs i 0 hT.rd).mono ?_
        rintro e w' ⟨rfl, rfl⟩
        go_wp2_with fail
        refine (read_made _ _ _ bs i gk ga gb qa qb (by omega) hT.rd).mono ?_
        rintro e w3 ⟨vB, rfl, B1, B2, R3, T3⟩
        have hN := rget_lt bs i gk ga gb qa
        have hstay := rget_stays bs i gk ga gb
        have hB := (rget_room bs i il gk ga gb).1
        have henc := rget_enc bs i il gk ga gb qa
        have il' := R3.le
        obtain ⟨ad, c, hvB⟩ := B1.slice
        generalize rget bs i gk ga gb = r at *
        obtain ⟨N, B, i', e'⟩ := r
        simp only at hN hstay hB henc il' R3 B1 hvB
        subst hvB
        have W4 := (Turn.refl no w3).alloc (.cells #[.int .u64 N, .slice ad B.length c] 33)
        have R4 := R3.turn_no W4
        have hqp : ∀ k, wfoot q vq k → ¬ k = p := fun k h1 h2 => hT.ap k h1 (Or.inl h2)
        have X4 := (hT.wt.turn T3 hqp).turn_no W4
        have T4 : Turn no w (w3.alloc (.cells #[.int .u64 N, .slice ad B.length c] 33)) := (hT.t.trans T3 (fun j hj r => by exfalso; have := hT.nr p (Or.inl rfl); omega)).then_no W4
        have v0 := T3.keep (p := ⟨lb, lo + k * 3, none⟩) q0 hlp
        have v1 := T3.keep (p := ⟨lb, lo + k * 3 + 1, none⟩) q1 hlp
        have v2 := T3.keep (p := ⟨lb, lo + k * 3 + 2, none⟩) q2 hlp
        have hl3 : lb < w3.heap.size := World.block_lt_of_cell? w3 _ v0
        have BB := B1.turn_no W4
        have hnb : B ≠ [] → ∀ g, (Value.slice ad B.length c).ownBlock = some g → ¬ wfoot q vq g := fun _ g h1 h2 => by
          have hg1 := B2 g h1
          rcases h2 with h2 | h2
          · have := hT.wt.lt; omega
          · have := hT.wt.own.lt h2; omega
        have hfw : ∀ k, wfoot q vq k → k < w3.heap.size := fun k h2 => by
          have hs3 := T3.size
          rcases h2 with h2 | h2
          · have := hT.wt.lt; omega
          · have := hT.wt.own.lt h2; omega
        have hfp : ∀ k, wfoot p v k → k < w3.heap.size := fun k h2 => by
          have hs3 := T3.size
          rcases h2 with h2 | h2
          · have := hT.rd.lt; omega
          · have := hT.rd.own.lt h2; omega
        have hap := hT.ap
        have hnr := hT.nr
        have hnw := hT.nw
        clear q0 q1 q2 W4 R3 B1 B2 T3 hT
        by_cases he : e' = 0
        · subst he
          obtain ⟨hii, hen⟩ := henc rfl il'
          clear henc hstay
          go_wp2_with fail
          refine (err_any _ _ _ R4.errs).mono ?_
          rintro e w' ⟨rfl, rfl⟩
          go_wp2_with fail
          refine (num_any _ _).mono ?_
          rintro e w' ⟨rfl, rfl⟩
          go_wp2_with fail
          have u0 : (w3.alloc (.cells #[.int .u64 N, .slice ad B.length c] 33)).cell? ⟨w3.heap.size, 0, none⟩ = some (.int .u64 N) := by rw [cell_of_row _ w3.heap.size 0 _ 33 (0, 0) (heap_alloc_new w3 _)]; rfl
          have u1 : (w3.alloc (.cells #[.int .u64 N, .slice ad B.length c] 33)).cell? ⟨w3.heap.size, 1, none⟩ = some (.slice ad B.length c) := by rw [cell_of_row _ w3.heap.size 1 _ 33 (0, 0) (heap_alloc_new w3 _)]; rfl
          have z0 : (w3.alloc (.cells #[.int .u64 N, .slice ad B.length c] 33)).cell? ⟨lb, lo + k * 3, none⟩ = some (.int .i64 gk) := by rw [← v0]; exact World.cell?_of_block (Below.heap_alloc _ _ _ hl3)
          have z1 : (w3.alloc (.cells #[.int .u64 N, .slice ad B.length c] 33)).cell? ⟨lb, lo + k * 3 + 1, none⟩ = some (.int .i64 ga) := by rw [← v1]; exact World.cell?_of_block (Below.heap_alloc _ _ _ hl3)
          have z2 : (w3.alloc (.cells #[.int .u64 N, .slice ad B.length c] 33)).cell? ⟨lb, lo + k * 3 + 2, none⟩ = some (.int .i64 gb) := by rw [← v2]; exact World.cell?_of_block (Below.heap_alloc _ _ _ hl3)
          generalize w3.alloc (.cells #[.int .u64 N, .slice ad B.length c] 33) = w4 at *
          have hx4 : w3.heap.size < w4.heap.size := World.block_lt_of_cell? w4 _ u0
          have hfl : ∀ k, k = lb → ¬ wfoot q vq k := fun k h1 h2 => by have := hnw k h2; omega
          have hfx : ¬ wfoot q vq w3.heap.size := fun h2 => by have := hfw _ h2; omega
          have hD : Turn no w4 w4.drew := (Turn.refl no w4).drew
          go_region_held3 (fun w' => w'.cell? ⟨lb, lo + k * 3, none⟩ = some (.int .i64 gk) ∧ w'.cell? ⟨lb, lo + k * 3 + 1, none⟩ = some (.int .i64 ga) ∧ w'.cell? ⟨lb, lo + k * 3 + 2, none⟩ = some (.int .i64 gb) ∧ w'.cell? ⟨w3.heap.size, 0, none⟩ = some (.int .u64 N) ∧ w'.cell? ⟨w3.heap.size, 1, none⟩ = some (.slice ad B.length c)) (go_keep)
            (first
              | (go_at_call 28; refine (again_any _ gk ga gb N ad B.length c).mono ?_; rintro e w5 ⟨rfl, t5⟩
                 have T5 := hD.then_no t5
                 have y0 := T5.keep z0 (fun q => q)
                 have y1 := T5.keep z1 (fun q => q)
                 have y2 := T5.keep z2 (fun q => q)
                 have y3 := T5.keep u0 (fun q => q)
                 have y4 := T5.keep u1 (fun q => q))
              | (go_at_call 22; refine (lay_made _ _ _ (bs.take i) (gk % 9) N hN _ B (X4.turn_no T5) (BB.turn_no T5) hnb (by simp; omega)).mono ?_; rintro e w6 ⟨rfl, vq6, m1, m2, m3⟩
                 have x0 := m2.keep y0 (hfl _ rfl)
                 have x1 := m2.keep y1 (hfl _ rfl)
                 have x2 := m2.keep y2 (hfl _ rfl)
                 have x3 := m2.keep y3 hfx
                 have x4 := m2.keep y4 hfx))
          have hjoin : bs.take i ++ (bs.take i').drop i = bs.take i' := by
            have e1 : bs.take i = (bs.take i').take i := by rw [List.take_take, Nat.min_eq_left hii]
            rw [e1, List.take_append_drop]
          rw [hen] at m1
          simp only at m1
          rw [hjoin] at m1
          have R6 := (R4.turn_no T5).turn m2 (fun k h1 h2 => hap k h2 h1)
          have T6 : Turn no w w6 := (T4.then_no T5).trans m2 (fun j hj r => by exfalso; have := hnw j r; omega)
          have hs5 := T5.size
          have hap6 : ∀ k, wfoot q vq6 k → ¬ wfoot p v k := fun k h1 h2 => by
            rcases h1 with h1 | h1
            · exact hap k (Or.inl h1) h2
            · rcases m3 with r | ⟨g, r, hg⟩
              · exact hap k (Or.inr (by rw [← r]; exact h1)) h2
              · rw [r] at h1; cases h1; have := hfp _ h2; omega
          have hnw6 : ∀ k, wfoot q vq6 k → w.heap.size ≤ k := fun k h1 => by
            rcases h1 with h1 | h1
            · exact hnw k (Or.inl h1)
            · rcases m3 with r | ⟨g, r, hg⟩
              · exact hnw k (Or.inr (by rw [← r]; exact h1))
              · rw [r] at h1; cases h1; have := T4.size; omega
          have hlen : (bs.take i').length = i' := by simp; omega
          go_wp2_with fail
          refine (out_made _ _ _ (bs.take i') m1 (by omega)).mono ?_
          rintro e w7 ⟨v7, rfl, o7, f7, t7⟩
          have R7 := R6.turn_no t7
          have T7 := T6.then_no t7
          have TT : Two w w7 p v q vq6 bs (bs.take i') i' 0 := ⟨R7, m1.turn_no t7, hap6, hnr, hnw6, T7⟩
          obtain ⟨a7, c7, hv7⟩ := o7.bs.slice
          have o8 := o7.bs
          rw [hlen] at hv7
          subst hv7
          have c1 : ¬ (i' : Int) < (i : Int) := by omega
          have c2 : ¬ (bs.length : Int) < (i' : Int) := by omega
          have c3 : ((i' : Int) != (i' : Int)) = false := by simp
          clear z0 z1 z2 u0 u1 v0 v1 v2 y0 y1 y2 y3 y4 x0 x1 x2 x3 x4 m1 m2 m3 T6 R6 T5 T4 R4 X4 BB t5 hD o7 f7 t7 hjoin hen
          go_wp2_with fail
          refine (num_any _ _).mono ?_
          rintro e w' ⟨rfl, rfl⟩
          go_wp2_with fail
          refine (at_made _ _ _ bs i' 0 R7).mono ?_
          rintro e w' ⟨rfl, rfl⟩
          go_wp2_with fail
          refine (at_made _ _ _ bs i' 0 R7).mono ?_
          rintro e w' ⟨rfl, rfl⟩
          go_wp2_with fail
          refine (at_made _ _ _ bs i' 0 R7).mono ?_
          rintro e w' ⟨rfl, rfl⟩
          by_cases h64 : k < 64
          · have h64' : (k : Int) < 64 := by omega
            obtain ⟨vs, hsl, hbs, _⟩ := slice_upto (hb.turn_no T7) i' il'
            go_wp2_with fail
            refine (at_made _ _ _ bs i' 0 R7).mono ?_
            rintro e w' ⟨rfl, rfl⟩
            go_wp2_with fail
            refine (same_any _ _ _ (bs.take i') (bs.take i') o8 hbs).mono ?_
            rintro e w' ⟨rfl, n8, rfl⟩
            have hbeq : (bs.take i' == bs.take i') = true := by simp
            have TN : Two w (w7.drewN n8) p v q vq6 bs (bs.take i') i' 0 := ⟨R7.drewN n8, TT.wt.turn_no ((Turn.refl no w7).drewN n8), hap6, hnr, hnw6, T7.drewN n8⟩
            go_wp2_with fail
            go_roundw
            case rel => exact ⟨k + 1, i', vq6, by omega, by go_num, TN⟩
            case measure => simp [intOf]; omega
          · have h64' : ¬ (k : Int) < 64 := by omega
            go_wp2_with fail
            go_roundw
            case rel => exact ⟨k + 1, i', vq6, by omega, by go_num, TT⟩
            case measure => simp [intOf]; omega
        · have hi' := hstay he
          subst hi'
          have he' : (e' != 0) = true := by simpa using he
          go_wp2_with fail
          refine (err_any _ _ _ R4.errs).mono ?_
          rintro e w' ⟨rfl, rfl⟩
          go_wp2_with fail
          refine (num_any _ _).mono ?_
          rintro e w' ⟨rfl, rfl⟩
          go_wp2_with fail
          refine (at_made _ _ _ bs _ e' R4).mono ?_
          rintro e w' ⟨rfl, rfl⟩
          go_wp2_with fail
          go_ret
          exact ⟨by simp, T4⟩
      · have hlt' : ¬ (k : Int) < (gs.length : Int) := by omega
        have il := hT.rd.le
        have hlen : (bs.take i).length = i := by simp; omega
        go_wp2_with fail
        refine (out_made _ _ _ (bs.take i) hT.wt (by omega)).mono ?_
        rintro e w7 ⟨v7, rfl, o7, f7, t7⟩
        have R7 := hT.rd.turn_no t7
        have T7 := hT.t.then_no t7
        obtain ⟨a7, c7, hv7⟩ := o7.bs.slice
        have o8 := o7.bs
        rw [hlen] at hv7
        subst hv7
        obtain ⟨vs, hsl, hbs, _⟩ := slice_upto (hb.turn_no T7) i il
        go_wp2_with fail
        refine (num_any _ _).mono ?_
        rintro e w' ⟨rfl, rfl⟩
        go_wp2_with fail
        refine (at_made _ _ _ bs i 0 R7).mono ?_
        rintro e w' ⟨rfl, rfl⟩
        go_wp2_with fail
        refine (same_any _ _ _ (bs.take i) (bs.take i) o8 hbs).mono ?_
        rintro e w' ⟨rfl, n8, rfl⟩
        go_wp2_with fail
        go_ret
        exact ⟨by simp, T7.drewN n8⟩
end Go.Proofs.Ytfjdojodbhmmaaa
