/- watch: the walk. -/
import Derived.Test.YtnlcngcilojnkaaDoorT5
namespace Go.Proofs.YtnlcngcilojnkaaDoor
open Go.RowKit Go.Maps Go.MuLone
set_option linter.unusedVariables false
section
theorem size93 : (Tryd.prog.info? 93).map (·.size) = some 23 := by kernel_rfl

/-- The two registries of a sight, one after the other. -/
def Ph (w wr : World) (i : Nat) : Prop :=
  Turn no w wr ∧ ((i = 0 ∧ Row wr w.heap.size (nilC (.pointer none) (.pointer none)) 74) ∨
    (i = 1 ∧ ∃ p0 br0 bt0, Row wr w.heap.size (nilC (ptr p0) (.pointer none)) 74 ∧ Bk wr p0 br0 bt0 (fun _ => .slice none 0 0) [] [] ∧ Fresh3 w.heap.size p0 br0 bt0) ∨
    (i = 2 ∧ ∃ d, Sight w.heap.size wr w.heap.size d (.slice none 0 0) [] ∧ ∀ j, (d j).E = []))
theorem Ph.step {w wr : World} {p br bt : Nat} {wr1 : World} {i : Nat} (h : Ph w wr i) (hi : i < 2) (t : Turn no wr wr1) (b : Bk wr1 p br bt (fun _ => .slice none 0 0) [] []) (f : Fresh3 wr.heap.size p br bt) :
    Ph w (wr1.setCell ⟨w.heap.size, i, none⟩ (.pointer (some ⟨p, 0, none⟩))) (i + 1) := by
  obtain ⟨T, h⟩ := h
  have hsz := T.size
  obtain ⟨f1, f2, f3⟩ := f
  have T1 : Turn no w (wr1.setCell ⟨w.heap.size, i, none⟩ (.pointer (some ⟨p, 0, none⟩))) := (T.then_no t).setCell (p := ⟨w.heap.size, i, none⟩) (fun q => absurd q (Nat.lt_irrefl _)) _
  have tS : Turn (fun g => g = w.heap.size) wr1 (wr1.setCell ⟨w.heap.size, i, none⟩ (.pointer (some ⟨p, 0, none⟩))) := (Turn.refl (fun g => g = w.heap.size) wr1).setCell (p := ⟨w.heap.size, i, none⟩) (fun _ => rfl) _
  rcases h with ⟨rfl, r⟩ | ⟨rfl, p0, br0, bt0, r, b0, g⟩ | ⟨rfl, _⟩
  · have r1 := r.turn t (fun q => q)
    refine ⟨T1, .inr (.inl ⟨rfl, p, br, bt, r1.set 0 _, b.turn tS (fun k hk q => by subst q; exact b.away r1 (by decide) (by decide) hk), by omega, by omega, by omega⟩)⟩
  · have r1 := r.turn t (fun q => q)
    have b1 := b0.turn_no t
    refine ⟨T1, .inr (.inr ⟨rfl, _, sight0 (w1 := wr) (Nat.le_refl _) T1.size (r1.set 1 _) (b1.turn tS (fun k hk q => by subst q; exact b1.away r1 (by decide) (by decide) hk)) (b.turn tS (fun k hk q => by subst q; exact b.away r1 (by decide) (by decide) hk)) g ⟨by omega, by omega, by omega⟩ ⟨b0.lt (.inl rfl), b0.lt (.inr (.inl rfl)), b0.lt (.inr (.inr (.inl rfl)))⟩ ⟨f1, f2, f3⟩, fun j => ?_⟩)⟩
    by_cases hj : j = 0 <;> simp [hj, sd0]
  · omega
theorem Ph.cell {w wr : World} {i : Nat} (h : Ph w wr i) (hi : i < 2) : ∃ u, wr.cell? ⟨w.heap.size, i, none⟩ = some u ∧ wr.frozen? ⟨w.heap.size, i, none⟩ = false ∧ w.heap.size < wr.heap.size := by
  obtain ⟨T, ⟨rfl, r⟩ | ⟨rfl, p0, br0, bt0, r, _⟩ | ⟨rfl, _⟩⟩ := h
  · exact ⟨_, r.cell 0 _ rfl, r.frozen 0, r.lt⟩
  · exact ⟨_, r.cell 1 _ rfl, r.frozen 1, r.lt⟩
  · omega

set_option maxRecDepth 100000 in
set_option maxHeartbeats 2000000 in
theorem watch20 (w : World) (v : Value) (l : List Opx) (hS : Script w v l) (hl1 : Laid1 w) (h2 : 2 ≤ w.heap.size) (hl : l.length ≤ 1599289640401) :
    Calls Tryd.prog 20 #[v] w fun e w' => ∃ sw d vb, e = .returned (.tuple #[.pointer (some ⟨sw, 0, none⟩), .bool true]) ∧ Sight w.heap.size w' sw d vb (runA l).B ∧ (∀ j, (d j).E = (runA l).E j) ∧ Turn no w w' := by
  obtain ⟨va, vc, hv, hcells, hcap, hle⟩ := hS.slice
  subst hv
  clear hS
  have hrl := runA_len l
  obtain ⟨n, hn⟩ : ∃ n, Shut (l.length = n) := ⟨_, rfl⟩
  rw [show l.length = n from hn.out] at hcap hle hl hrl ⊢
  have P0 : Ph w (w.alloc (.cells #[.pointer none, .pointer none, .slice none 0 0, .slice none 0 0, .slice none 0 0, .slice none 0 0, .slice none 0 0, .bool false] 74)) 0 := ⟨(Turn.refl no w).alloc _, .inl ⟨rfl, Row.new w _ 74⟩⟩
  go_enter Tryd.func20, Tryd.ntmps20
  go_wp2_with fail
  obtain ⟨sw, hsw⟩ : ∃ sw, Shut (sw = w.heap.size) := ⟨_, rfl⟩
  generalize w.alloc (.cells #[.pointer none, .pointer none, .slice none 0 0, .slice none 0 0, .slice none 0 0, .slice none 0 0, .slice none 0 0, .bool false] 74) = w1 at *
  go_loopw [5] (fun c wr => ∃ i : Nat, i ≤ 2 ∧ c = .int .i64 i ∧ Ph w wr i) (fun c _ => 2 - (intOf c).toNat)
  case atStart => exact ⟨0, by omega, rfl, P0⟩
  case round =>
    clear P0
    obtain ⟨i, hi, rfl, P⟩ := hrel
    by_cases hlt : i < 2
    · have hlt' : (i : Int) < 2 := by omega
      obtain ⟨u, hu, hf, hpl⟩ := P.cell hlt
      have hnew := bk_new wr.drew
      have hst := fun {p br bt wr1} => P.step (p := p) (br := br) (bt := bt) (wr1 := wr1) hlt
      clear P
      go_wp2_with fail
      refine wp_region_held_drew (S := fun W => Turn (fun g => g = w.heap.size) wr W) (by kernel_rfl) (Turn.refl _ wr).drew (fun hHeld => ?_)
      refine' wpAnyH_take (i := 0) (v := .pointer (some ⟨w.heap.size, 0, none⟩)) rfl (by kernel_rfl) (by kernel_rfl) (by kernel_rfl) (fun _ _ _ h => h) (Or.inl ⟨by kernel_rfl, fun W hW => ?y1⟩) hHeld ?r1
      · go_simp
      refine' wpAnyH_take (i := 1) (v := .int .i64 i) rfl (by kernel_rfl) (by kernel_rfl) (by kernel_rfl) (fun _ _ _ h => h) (Or.inl ⟨by kernel_rfl, fun W hW => ?y2⟩) hHeld ?r2
      · go_simp
      refine' wpAnyH_take (i := 3) (v := .pointer (some ⟨w.heap.size, 0, none⟩)) rfl (by kernel_rfl) (by kernel_rfl) (by kernel_rfl) (fun _ _ _ h => h) (Or.inl ⟨by kernel_rfl, fun W hW => ?y3⟩) hHeld ?r3
      · go_simp
      refine' wpAnyH_take (i := 4) (v := .pointer (some ⟨w.heap.size, 0, none⟩)) rfl (by kernel_rfl) (by kernel_rfl) (by kernel_rfl) (fun _ _ _ h => h) (Or.inl ⟨by kernel_rfl, fun W hW => ?y4⟩) hHeld ?r4
      · go_simp
      refine wpAnyH_ready (rs := [2]) (by kernel_rfl) (by simp) ?_
      refine AllReadyH.cons rfl (fun K hK => ?_) AllReadyH.nil
      go_simp
      refine hnew.mono ?_
      rintro e w2 ⟨p, br, bt, rfl, f1, f2, f3, bk, t2⟩
      have t2' : Turn no wr w2 := (Turn.refl no wr).drew.then_no t2
      have hS2 := hst t2' bk ⟨f1, f2, f3⟩
      have a2 := t2'.keep hu (fun q => q)
      have f2' : w2.frozen? ⟨w.heap.size, i, none⟩ = false := (t2'.frozen hpl (fun q => q)).trans hf
      go_wp2_with fail
      refine hK.out _ _ t2'.of_no (fun hHeld => ?_)
      clear hK
      refine' wpAnyH_take (i := 5) (v := .pointer (some ⟨w.heap.size, i, none⟩)) rfl (by kernel_rfl) (by kernel_rfl) (by kernel_rfl) (fun _ _ _ h => h) (Or.inl ⟨by kernel_rfl, fun W hW => ?y5⟩) hHeld ?r5
      · go_simp
      refine wpAnyH_ready (rs := [6]) (by kernel_rfl) (by simp) ?_
      refine AllReadyH.cons rfl (fun K hK => ?_) AllReadyH.nil
      go_simp
      refine hK.out _ _ ((t2'.of_no (S := fun g => g = w.heap.size)).setCell (p := ⟨w.heap.size, i, none⟩) (fun _ => rfl) _) (fun hHeld => ?_)
      clear hK
      refine wpAnyH_done (by kernel_rfl) ?_ _
      have a3 : (w2.setCell ⟨w.heap.size, i, none⟩ (.pointer (some ⟨p, 0, none⟩))).cell? ⟨w.heap.size, i, none⟩ = some (.pointer (some ⟨p, 0, none⟩)) := World.cell?_setCell_same _ _ _ a2
      clear hHeld hst hnew bk a2 f2' hu hf
      generalize w2.setCell ⟨w.heap.size, i, none⟩ (.pointer (some ⟨p, 0, none⟩)) = w3 at *
      go_wp2_with fail
      go_roundw
      case rel => exact ⟨i + 1, by omega, by go_num, hS2⟩
      case measure => simp [intOf]; omega
    · have hi2 : i = 2 := by omega
      subst hi2
      obtain ⟨T1, ⟨q, _⟩ | ⟨q, _⟩ | ⟨_, d0, S0, hE0⟩⟩ := P
      · cases q
      · cases q
      go_wp2_with fail
      clear hsw
      obtain ⟨wo, hwo⟩ : ∃ wo, wo = wr := ⟨_, rfl⟩
      subst hwo
      go_loopw [6] (fun c wr => ∃ i : Nat, i ≤ n ∧ c = .int .i64 i ∧ ∃ d vb, Sight w.heap.size wr w.heap.size d vb (runA (l.take i)).B ∧ (∀ j, (d j).E = (runA (l.take i)).E j) ∧ Turn no w wr) (fun c _ => n - (intOf c).toNat)
      case atStart => exact ⟨0, by omega, rfl, d0, _, S0, hE0, T1⟩
      case round =>
        clear S0 hE0 T1
        obtain ⟨i, hi, rfl, d, vb, S, hE, T⟩ := hrel
        obtain ⟨hrE, hrB⟩ := hrl i hi
        have c7 := S.c7
        by_cases hlt : i < n
        · have hlt' : (i : Int) < (n : Int) := by omega
          obtain ⟨x, hx⟩ : ∃ x, l[i]? = some x := ⟨l[i]'(by rw [hn.out]; exact hlt), List.getElem?_eq_getElem _⟩
          obtain ⟨b, off, rfl, hr, hbx, hX⟩ := hcells i x hx
          have hr1 := rangeAt_turn hr T
          have hrs := runA_succ l i x hx
          clear hcells hrl hr
          have hkl := x.k_lt
          have hm : (d x.k).E.length + (runA (l.take i)).B.length ≤ 4398046511104 := by rw [hE]; have := hrE x.k; omega
          have hm2 : (runA (l.take i)).B.length ≤ 1599289640401 := by omega
          have hand : bits .and .i64 x.who 1 = (x.k : Int) := (i64_and1 x.who).trans x.k_eq
          have hOCl : (opC x).length = 23 := by simp [opC, hX]
          have hOCs : (Tryd.prog.info? 93).map (·.size) = some (opC x).length := by rw [hOCl]; exact size93
          have hOCs2 : (Tryd.prog.info? 93).map (·.size) = some (opC x).toArray.size := by rw [List.size_toArray, hOCl]; exact size93
          have hOCo : (opC x).toArray.all (·.oneCell') = true := by
            obtain ⟨a, c, e⟩ := hbx.slice
            simp [opC, e, bv, Value.oneCell']
          have hu93 := Tryd.underlying93
          have hcw : ∀ W g, Row W g (opC x).toArray 93 → W.cell? ⟨g, 0, none⟩ = some (.int .i64 x.kind) ∧ W.cell? ⟨g, 1, none⟩ = some (.int .i64 x.who) ∧ W.cell? ⟨g, 2, none⟩ = some (.int .i64 x.pos) ∧ W.cell? ⟨g, 3, none⟩ = some (.int .u64 x.a.toNat) ∧ W.cell? ⟨g, 4, none⟩ = some x.va ∧ W.rangeAt g 5 (x.X.map bv) := fun W g r =>
            ⟨r.cell 0 _ rfl, r.cell 1 _ rfl, r.cell 2 _ rfl, r.cell 3 _ rfl, r.cell 4 _ rfl, fun j u hu => by
              have hj : j < 16 := by have := (List.getElem?_eq_some_iff.1 hu).1; simpa [hX] using this
              have := r.cell (5 + j) u (by
                rw [List.getElem?_toArray, opC, Nat.add_comm 5 j]
                simp only [List.getElem?_cons_succ]
                rw [List.getElem?_append_left (by simpa [hX] using hj)]
                exact hu)
              exact this⟩
          generalize opC x = OC at *
          have RZ : Row (World.setRow (wr.alloc (.cells #[.int .i64 0, .int .i64 0, .int .i64 0, .int .u64 0, .slice none 0 0, .int .u8 0, .int .u8 0, .int .u8 0, .int .u8 0, .int .u8 0, .int .u8 0, .int .u8 0, .int .u8 0, .int .u8 0, .int .u8 0, .int .u8 0, .int .u8 0, .int .u8 0, .int .u8 0, .int .u8 0, .int .u8 0, .int .i64 0, .bool false] 93)) wr.heap.size OC.toArray) wr.heap.size OC.toArray 93 := setRow_heap _ _ _ _ _ _ (Row.new wr _ 93)
          have T4 : Turn no wr (World.setRow (wr.alloc (.cells #[.int .i64 0, .int .i64 0, .int .i64 0, .int .u64 0, .slice none 0 0, .int .u8 0, .int .u8 0, .int .u8 0, .int .u8 0, .int .u8 0, .int .u8 0, .int .u8 0, .int .u8 0, .int .u8 0, .int .u8 0, .int .u8 0, .int .u8 0, .int .u8 0, .int .u8 0, .int .u8 0, .int .u8 0, .int .i64 0, .bool false] 93)) wr.heap.size OC.toArray) := ((Turn.refl no wr).alloc _).setRow _ _ (fun q => absurd q (Nat.lt_irrefl _))
          have hgo : wr.heap.size < (World.setRow (wr.alloc (.cells #[.int .i64 0, .int .i64 0, .int .i64 0, .int .u64 0, .slice none 0 0, .int .u8 0, .int .u8 0, .int .u8 0, .int .u8 0, .int .u8 0, .int .u8 0, .int .u8 0, .int .u8 0, .int .u8 0, .int .u8 0, .int .u8 0, .int .u8 0, .int .u8 0, .int .u8 0, .int .u8 0, .int .u8 0, .int .i64 0, .bool false] 93)) wr.heap.size OC.toArray).heap.size := RZ.lt
          obtain ⟨k, hk⟩ : ∃ k, Shut (x.k = k) := ⟨_, rfl⟩
          rw [show x.k = k from hk.out] at hkl hm hand
          have hX33 : (Tryd.prog.info? 33).map (·.size) = some (x.X.map bv).length := by rw [List.length_map, hX]; exact size33
          have TW : ∀ {w5 w6 : World}, Turn no w w5 → Turn (fun g => w.heap.size ≤ g) w5 w6 → Turn no w w6 := fun h1 h2 => (h1.of_no.trans h2 (fun _ _ q => q)).mono (S := fun g => w.heap.size ≤ g) (fun g hg q => absurd hg (by omega))
          by_cases hk1 : x.kind = 1
          · go_wp2_with (first | (refine wpList_load_mid rfl 93 (.tmp 43) rfl b (off + i * 23) rfl OC _ hr1 hu93 rfl hOCs ?_) | (refine wpList_store_row rfl 93 (.tmp 7) (.tmp 44) rfl wr.heap.size OC.toArray rfl rfl 93 _ (Row.new wr _ 93) hOCs2 (by simp [hOCl]) hOCo ?_; generalize World.setRow (wr.alloc (.cells #[.int .i64 0, .int .i64 0, .int .i64 0, .int .u64 0, .slice none 0 0, .int .u8 0, .int .u8 0, .int .u8 0, .int .u8 0, .int .u8 0, .int .u8 0, .int .u8 0, .int .u8 0, .int .u8 0, .int .u8 0, .int .u8 0, .int .u8 0, .int .u8 0, .int .u8 0, .int .u8 0, .int .u8 0, .int .i64 0, .bool false] 93)) wr.heap.size OC.toArray = w4 at *; generalize wr.heap.size = go at *; obtain ⟨c0, c1, c2, c3, c4, c5⟩ := hcw w4 go RZ; have S4 := S.turn_no T4; have T5 := T.then_no T4; clear hr1 hOCs hOCs2 hOCl hOCo hcw))
            rw [← hk.out] at hkl hm
            have hen := enter34 S4 hkl x.a hm
            rw [show x.k = k from hk.out] at hen
            refine hen.mono ?_
            rintro e w5 ⟨rfl, d', S5, hE5, t5⟩
            have T6 := TW T5 t5
            clear S4 T5 t5 c0 c1 c2 c3 c4 c5 RZ T4 hen TW S
            go_wp2_with fail
            go_roundw
            case rel =>
              refine ⟨i + 1, by omega, by go_num, d', vb, ?_, fun j => ?_, T6⟩
              · rw [hrs]
                simpa [stepA, hk1] using S5
              · rw [hrs, hE5 j]
                simp only [stepA, hk1, if_true, show x.k = k from hk.out]
                by_cases hj : j = k
                · simp [hj, hE]
                · simp [hj, hE]
            case measure => simp [intOf]; omega
          by_cases hk2 : x.kind = 2
          · go_wp2_with (first | (refine wpList_load_mid rfl 93 (.tmp 43) rfl b (off + i * 23) rfl OC _ hr1 hu93 rfl hOCs ?_) | (refine wpList_store_row rfl 93 (.tmp 7) (.tmp 44) rfl wr.heap.size OC.toArray rfl rfl 93 _ (Row.new wr _ 93) hOCs2 (by simp [hOCl]) hOCo ?_; generalize World.setRow (wr.alloc (.cells #[.int .i64 0, .int .i64 0, .int .i64 0, .int .u64 0, .slice none 0 0, .int .u8 0, .int .u8 0, .int .u8 0, .int .u8 0, .int .u8 0, .int .u8 0, .int .u8 0, .int .u8 0, .int .u8 0, .int .u8 0, .int .u8 0, .int .u8 0, .int .u8 0, .int .u8 0, .int .u8 0, .int .u8 0, .int .i64 0, .bool false] 93)) wr.heap.size OC.toArray = w4 at *; generalize wr.heap.size = go at *; obtain ⟨c0, c1, c2, c3, c4, c5⟩ := hcw w4 go RZ; have S4 := S.turn_no T4; have T5 := T.then_no T4; clear hr1 hOCs hOCs2 hOCl hOCo hcw))
            rw [← hk.out] at hkl hm
            have hen := sign35 S4 hkl x.pos x.va x.bs (hbx.turn_no T5) (fun hne g hg => hbx.old hne g hg) (hl1.turn T5 (fun q => q)) h2 hm hm2
            rw [show x.k = k from hk.out] at hen
            refine hen.mono ?_
            rintro e w5 ⟨rfl, d', vb', S5, hE5, t5⟩
            have T6 := TW T5 t5
            clear S4 T5 t5 c0 c1 c2 c3 c4 c5 RZ T4 hen TW S
            go_wp2_with fail
            go_roundw
            case rel =>
              refine ⟨i + 1, by omega, by go_num, d', vb', ?_, fun j => ?_, T6⟩
              · rw [hrs]
                simp only [stepA, hk2, if_true, show x.k = k from hk.out]
                rw [← hE]
                simpa using S5
              · rw [hrs, hE5 j, hE]
                simp [stepA, hk2]
            case measure => simp [intOf]; omega
          by_cases hk3 : x.kind = 3
          · go_wp2_with (first | (refine wpList_load_mid rfl 33 (.tmp 77) rfl go 5 rfl (x.X.map bv) _ c5 Tryd.underlying33 rfl hX33 ?_) | (refine wpList_load_mid rfl 93 (.tmp 43) rfl b (off + i * 23) rfl OC _ hr1 hu93 rfl hOCs ?_) | (refine wpList_store_row rfl 93 (.tmp 7) (.tmp 44) rfl wr.heap.size OC.toArray rfl rfl 93 _ (Row.new wr _ 93) hOCs2 (by simp [hOCl]) hOCo ?_; generalize World.setRow (wr.alloc (.cells #[.int .i64 0, .int .i64 0, .int .i64 0, .int .u64 0, .slice none 0 0, .int .u8 0, .int .u8 0, .int .u8 0, .int .u8 0, .int .u8 0, .int .u8 0, .int .u8 0, .int .u8 0, .int .u8 0, .int .u8 0, .int .u8 0, .int .u8 0, .int .u8 0, .int .u8 0, .int .u8 0, .int .u8 0, .int .i64 0, .bool false] 93)) wr.heap.size OC.toArray = w4 at *; generalize wr.heap.size = go at *; obtain ⟨c0, c1, c2, c3, c4, c5⟩ := hcw w4 go RZ; have S4 := S.turn_no T4; have T5 := T.then_no T4; clear hr1 hOCs hOCs2 hOCl hOCo hcw))
            rw [← hk.out] at hkl
            have hen := truth36 S4 hkl x.a x.va x.bs (hbx.turn_no T5) x.X hX (hl1.turn T5 (fun q => q)) h2
            rw [show x.k = k from hk.out] at hen
            refine hen.mono ?_
            rintro e w5 ⟨rfl, S5, t5⟩
            have T6 := TW T5 (t5.mono (fun g _ q => by subst q; exact S4.fresh _ _ (by rw [← hk.out]; exact hkl) (.inl (.inl rfl))))
            clear S4 T5 t5 c0 c1 c2 c3 c4 c5 RZ T4 hen TW S
            go_wp2_with fail
            go_roundw
            case rel =>
              refine ⟨i + 1, by omega, by go_num, d, vb, ?_, fun j => ?_, T6⟩
              · rw [hrs]
                simpa [stepA, hk3] using S5
              · rw [hrs, hE]
                simp [stepA, hk3]
            case measure => simp [intOf]; omega
          · have hq1 : (x.kind == 1) = false := by simpa using hk1
            have hq2 : (x.kind == 2) = false := by simpa using hk2
            have hq3 : (x.kind == 3) = false := by simpa using hk3
            go_wp2_with (first | (refine wpList_load_mid rfl 93 (.tmp 43) rfl b (off + i * 23) rfl OC _ hr1 hu93 rfl hOCs ?_) | (refine wpList_store_row rfl 93 (.tmp 7) (.tmp 44) rfl wr.heap.size OC.toArray rfl rfl 93 _ (Row.new wr _ 93) hOCs2 (by simp [hOCl]) hOCo ?_; generalize World.setRow (wr.alloc (.cells #[.int .i64 0, .int .i64 0, .int .i64 0, .int .u64 0, .slice none 0 0, .int .u8 0, .int .u8 0, .int .u8 0, .int .u8 0, .int .u8 0, .int .u8 0, .int .u8 0, .int .u8 0, .int .u8 0, .int .u8 0, .int .u8 0, .int .u8 0, .int .u8 0, .int .u8 0, .int .u8 0, .int .u8 0, .int .i64 0, .bool false] 93)) wr.heap.size OC.toArray = w4 at *; generalize wr.heap.size = go at *; obtain ⟨c0, c1, c2, c3, c4, c5⟩ := hcw w4 go RZ; have S4 := S.turn_no T4; have T5 := T.then_no T4; clear hr1 hOCs hOCs2 hOCl hOCo hcw))
            go_roundw
            case rel =>
              refine ⟨i + 1, by omega, by go_num, d, vb, ?_, fun j => ?_, T5⟩
              · rw [hrs]
                simpa [stepA, hk1, hk2] using S4
              · rw [hrs, hE]
                simp [stepA, hk1, hk2]
            case measure => simp [intOf]; omega
        · have hin : i = n := by omega
          subst hin
          have hlt' : ¬ (i : Int) < (i : Int) := by omega
          have hta : l.take i = l := by rw [← hn.out]; exact List.take_length
          rw [hta] at S hE
          clear hcells hrl
          go_wp2_with fail
          go_quiet (fail)
          go_wp2_with fail
          go_ret2
          exact ⟨_, d, vb, rfl, S.turn_no ((Turn.refl no wr).drewN _), hE, T.drewN _⟩
end
end Go.Proofs.YtnlcngcilojnkaaDoor
