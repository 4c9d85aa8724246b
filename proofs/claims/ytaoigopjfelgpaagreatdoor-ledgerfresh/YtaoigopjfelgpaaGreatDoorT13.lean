/- apart: each list of accounts is written, each is appended to, and none sees another. -/
import Derived.Test.YtaoigopjfelgpaaGreatDoorTb
namespace Go.Proofs.YtaoigopjfelgpaaGreatDoor
open Go.RowKit
set_option linter.unusedVariables false

theorem src_one {P : Program} {tx e' e : TypeId} (hk : P.underlying tx = some (.slice e')) (w : World) (u : Value) (hu : u.oneCell' = true) : Src P 1 tx (.slice (some ⟨w.heap.size, 0, none⟩) 1 1) 1 [u] (w.alloc (.cells #[u] e)) :=
  Src.ofSlice _ hk _ _ _ _ (by simp) (fun j x hx => by
    rw [Addr.add_lit, cell_of_row _ w.heap.size (0 + j) _ e (0, 0) (heap_alloc_new w _), Nat.zero_add]
    simpa using hx) (by intro x hx; simp at hx; subst hx; exact hu)
theorem info22 : (Tryz.prog.info? 22).map (fun i => (i.zero, i.size, i.bytes)) = some (some (.slice none 0 0), 1, 24) := by kernel_rfl
theorem src_ac (w : World) (m : Ac) : Src Tryz.prog 5 22 (.slice (some ⟨w.heap.size, 0, none⟩) 1 1) 1 (acs m) (w.alloc (.cells (acs m).toArray 50)) :=
  Src.ofSlice _ Tryz.underlying22 _ 1 1 _ (by simp [acs]) (fun j x hx => by
    rw [Addr.add_lit, Nat.zero_add]
    exact (cell_of_row _ _ j _ 50 (0, 0) (heap_alloc_new w _)).trans (by simpa using hx)) (by intro x hx; simp [acs] at hx; rcases hx with rfl | rfl | rfl | rfl | rfl <;> rfl)
/-- An account stored amid its list. -/
theorem put5 {w : World} {g n c : Nat} {l : List Ac} (h : OwnN w 50 5 (.slice (some ⟨g, 0, none⟩) n c) n (acC l)) (k : Nat) (hk : k < l.length) (m : Ac) :
    OwnN (((((w.setCell ⟨g, k * 5, none⟩ (.int .u64 m.ad)).setCell ⟨g, k * 5 + 1, none⟩ (.int .u64 m.bal)).setCell ⟨g, k * 5 + 2, none⟩ (.int .u64 m.bond)).setCell ⟨g, k * 5 + 3, none⟩ (.int .u64 m.nonce)).setCell ⟨g, k * 5 + 4, none⟩ (.bool m.jail)) 50 5 (.slice (some ⟨g, 0, none⟩) n c) n (acC (l.set k m)) := by
  have h2 := OwnN.setCells (acs m) h (k * 5) (by rw [acC_len]; simp [acs]; omega)
  rw [setL_acC l k m hk] at h2
  exact h2

theorem Grown.to {B : Nat} {w : World} {vs us : List Value} {F G G2 : Nat → List Ac} (h : Grown B w vs us F G) (e : ∀ q, q < us.length → G q = G2 q) (hp : ∀ q, F q <+: G2 q) : Grown B w vs us F G2 :=
  ⟨⟨fun k v hv => by rw [← e k (List.getElem?_eq_some_iff.1 hv).1]; exact h.lot.own k v hv, fun k v hv => by rw [← e k (List.getElem?_eq_some_iff.1 hv).1]; exact h.lot.ok k v hv, h.lot.apart⟩, h.ms, h.head, h.low, h.cross, h.blk, hp⟩

set_option maxRecDepth 100000 in
set_option maxHeartbeats 20000000 in
theorem apart18 (w : World) (g0 n c0 : Nat) (vs xs : List Value) (L : Nat → List Ac) (O : OwnN w 30 4 (.slice (some ⟨g0, 0, none⟩) n c0) n xs) (hx : ∀ (k : Nat) (v : Value), vs[k]? = some v → xs[k * 4]? = some v) (hn : vs.length = n) (hn0 : 0 < n) (hn1 : n ≤ 1000) (H : Lx w vs L) (hL : ∀ k, (L k).length ≤ 100000) :
    Calls Tryz.prog 18 #[.slice (some ⟨g0, 0, none⟩) n c0] w fun e w' => e = .returned (.bool true) ∧ Turn (Lb vs) w w' := by
  have hSz : ∀ (k : Nat) (v : Value), vs[k]? = some v → ∃ a cp, v = .slice a (L k).length cp := fun k v hv => by
    obtain ⟨a, cp, e, _⟩ := (H.own k v hv).form
    exact ⟨a, cp, e⟩
  have hlow : ∀ g, Lb vs g → g < w.heap.size := fun g ⟨k, v, hv, q⟩ => (H.own k v hv).lt q
  have hg0 : g0 < w.heap.size := O.lt rfl
  have haw : ¬ Lb vs g0 := H.away O (by decide) g0 rfl
  go_enter Tryz.func18, Tryz.ntmps18
  go_wp2_with fail
  go_loopw [3, 4] (fun u x wr => ∃ k : Nat, k ≤ n ∧ x = .int .i64 k ∧ Lx wr vs (stA L k 0) ∧ Own wr 22 u (vs.take k) ∧ (∀ g, u.ownBlock = some g → w.heap.size ≤ g) ∧ Turn (Lb vs) w wr) (fun _ x _ => n - (intOf x).toNat)
  case atStart => exact ⟨0, by omega, rfl, by rw [stA_zero]; exact H, Own.nil _ _, fun g q => (by cases q), Turn.refl _ _⟩
  case round =>
    obtain ⟨k, hk, rfl, H1, OU, hf, T⟩ := hrel
    clear H
    obtain ⟨ua, uc, rfl, _⟩ := OwnN.form (show OwnN _ 22 1 _ _ _ from OU)
    rw [show (vs.take k).length = k by rw [List.length_take]; omega] at OU hf ⊢
    by_cases hlt : k < n
    · have hlt' : (k : Int) < (n : Int) := by omega
      obtain ⟨v, hv⟩ : ∃ v, vs[k]? = some v := ⟨vs[k]'(by omega), List.getElem?_eq_getElem _⟩
      obtain ⟨a, cp, rfl⟩ := hSz k v hv
      have hLk := hL k
      have OC := O.turn T (fun g q => by cases q; exact haw)
      have hc := OC.cellAt (k * 4) _ (hx k _ hv)
      obtain ⟨ln, hln⟩ : ∃ ln, Hid ((L k).length = ln) := ⟨_, rfl⟩
      rw [show (L k).length = ln from hln.out] at hLk hv hc
      go_wp2_with fail
      obtain ⟨wo, hwo⟩ : ∃ wo, wo = wr := ⟨_, rfl⟩
      subst hwo
      go_loopw [5] (fun x wr => ∃ j : Nat, j ≤ ln ∧ x = .int .i64 j ∧ Lx wr vs (stA L k j) ∧ Turn (Lb vs) wo wr) (fun x _ => ln - (intOf x).toNat)
      case atStart => exact ⟨0, by omega, rfl, H1, Turn.refl _ _⟩
      case round =>
        obtain ⟨j, hj, rfl, HJ, TJ⟩ := hrel
        have OC := OC.turn TJ (fun g q => by cases q; exact haw)
        have hc := OC.cellAt (k * 4) _ (hx k _ hv)
        by_cases hjl : j < ln
        · have hjl' : (j : Int) < (ln : Int) := by omega
          have hlen : (stA L k j k).length = ln := by rw [stA_len _ _ _ _ (by rw [hln.out]; omega)]; exact hln.out
          have OJ := HJ.own k _ hv
          obtain ⟨g, cp', e1, R⟩ := OJ.at0 (by intro q; rw [q] at hlen; simp at hlen; omega) (HJ.ok k _ hv)
          rw [hlen] at e1 OJ
          cases e1
          obtain ⟨m, hm⟩ : ∃ m, (stA L k j k)[j]? = some m := ⟨(stA L k j k)[j]'(by omega), List.getElem?_eq_getElem _⟩
          obtain ⟨gb, off, ea, d0, d1, d2, d3, d4⟩ := R.cells j m hm
          cases ea
          simp only [Nat.zero_add] at d0 d1 d2 d3 d4
          have f0 := OJ.thawed (j * 5)
          have f1 := OJ.thawed (j * 5 + 1)
          have f2 := OJ.thawed (j * 5 + 2)
          have f3 := OJ.thawed (j * 5 + 3)
          have f4 := OJ.thawed (j * 5 + 4)
          have mok : (mkA 10000 k j).ok := ⟨by simp only [mkA]; omega, by simp [mkA], by simp only [mkA]; omega, by simp [mkA]⟩
          have e2 : (stA L k j k).set j (mkA 10000 k j) = stA L k (j + 1) k := by rw [stA_self, stA_self]; exact overTo_succ k j (L k) (by rw [hln.out]; exact hjl)
          have O2 := put5 OJ j (by omega) (mkA 10000 k j)
          have okm : ∀ x ∈ stA L k (j + 1) k, x.ok := fun x hx => by
            rw [← e2] at hx
            rcases List.mem_or_eq_of_mem_set hx with q | rfl
            · exact HJ.ok k _ hv x q
            · exact mok
          rw [e2] at O2
          have hl2 : (stA L k (j + 1) k).length = ln := by rw [stA_len _ _ _ _ (by rw [hln.out]; omega)]; exact hln.out
          have TS := ((((((Turn.refl (fun b => Value.ownBlock (.slice (some ⟨g, 0, none⟩) ln cp) = some b) wr).setCell (p := ⟨g, j * 5, none⟩) (fun _ => rfl) (.int .u64 (mkA 10000 k j).ad)).setCell (p := ⟨g, j * 5 + 1, none⟩) (fun _ => rfl) (.int .u64 (mkA 10000 k j).bal)).setCell (p := ⟨g, j * 5 + 2, none⟩) (fun _ => rfl) (.int .u64 (mkA 10000 k j).bond)).setCell (p := ⟨g, j * 5 + 3, none⟩) (fun _ => rfl) (.int .u64 (mkA 10000 k j).nonce)).setCell (p := ⟨g, j * 5 + 4, none⟩) (fun _ => rfl) (.bool (mkA 10000 k j).jail))
          have H2 := HJ.upd (L' := stA L k (j + 1)) k _ hv TS (by rw [hl2]; exact O2) okm (fun i hi => stA_other L k (j + 1) j i hi)
          have T2 : Turn (Lb vs) wo _ := TJ.trans TS (fun b _ q => ⟨k, _, hv, q⟩)
          simp only [mkA, Int.natCast_add, Int.cast_ofNat_Int] at H2 T2
          clear O2 TS HJ TJ R e2 OJ okm
          go_wp2_with fail
          go_roundw
          case rel => exact ⟨j + 1, by omega, by go_num, H2, T2⟩
          case measure => simp [intOf]; omega
        · have hje : j = ln := by omega
          subst hje
          have hjl' : ¬ (j : Int) < (j : Int) := by omega
          have e2 : stA L k j = stA L (k + 1) 0 := by rw [← hln.out]; exact stA_next L k
          rw [e2] at HJ
          have T2 := T.trans TJ (fun _ _ q => q)
          have TA : Turn no wr (wr.alloc (.cells #[.slice a j cp] 22)) := (Turn.refl no wr).alloc _
          have hs : Src Tryz.prog 1 99 (.slice (some ⟨wr.heap.size, 0, none⟩) 1 1) 1 [.slice a j cp] (wr.alloc (.cells #[.slice a j cp] 22)) := src_one Tryz.underlying99 wr _ rfl
          have OU2 := (OU.turn TJ (H1.away (show OwnN _ 22 1 _ _ _ from OU) (by decide))).turn_no TA
          have hs1 := T2.size
          have e3 : vs.take k ++ [.slice a j cp] = vs.take (k + 1) := by rw [List.take_add_one, hv]; rfl
          go_wp2_with (at_builtin; refine wpList_append_src rfl (.tmp 41) (.tmp 47) rfl Tryz.underlying99 info22 rfl (.slice ua k uc) (vs.take k) rfl OU2 (.slice (some ⟨wr.heap.size, 0, none⟩) 1 1) 1 _ rfl hs ?_ ?_ ?_)
          · omega
          · simp only [maxLen]; omega
          intro v3 w3 O3 G3 _
          have aw := (HJ.turn_no TA).away (show OwnN _ 22 1 _ _ _ from OU2) (by decide)
          have f3 := G3.fresh hf (by have := TA.size; omega)
          have H3 := (HJ.turn_no TA).turn G3.turn (fun g q r => aw g r q)
          have T3 : Turn (Lb vs) w w3 := ((T2.then_no TA).mono (S' := fun g => Lb vs g ∨ Value.ownBlock (.slice ua k uc) = some g) (fun _ _ q => Or.inl q)).trans G3.turn (fun _ _ q => Or.inr q) |>.mono (fun b hb q => q.elim id (fun q => by have := hf b q; omega))
          clear HJ OU2 hs G3 aw
          go_wp2_with fail
          go_roundw
          case rel => exact ⟨k + 1, by omega, by go_num, H3, O3, f3, T3⟩
          case measure => simp [intOf]; omega
    · have hke : k = n := by omega
      subst hke
      have hlt' : ¬ (k : Int) < (k : Int) := by omega
      have OC := O.turn T (fun g q => by cases q; exact haw)
      rw [List.take_of_length_le (by omega)] at OU
      have e1 : stA L k 0 = full L ∨ True := Or.inr trivial
      have hst : ∀ i, i < k → stA L k 0 i = full L i := fun i hi => by simp [stA, full, hi]
      have H2 : Lx wr vs (full L) := ⟨fun i v hv => by rw [← hst i (by have := (List.getElem?_eq_some_iff.1 hv).1; omega)]; exact H1.own i v hv, fun i v hv => by rw [← hst i (by have := (List.getElem?_eq_some_iff.1 hv).1; omega)]; exact H1.ok i v hv, H1.apart⟩
      have GR : Grown w.heap.size wr vs vs (full L) (ap L 0 0) := by rw [ap_zero]; exact Grown.begin H2 hlow
      obtain ⟨g3, rfl⟩ : ∃ g3, ua = some ⟨g3, 0, none⟩ := by
        rcases OU.shape with ⟨_, e⟩ | ⟨g3, cap, cur, e, _⟩
        · rw [e] at hn; simp at hn; omega
        · cases e; exact ⟨g3, rfl⟩
      have hg3 := hf g3 rfl
      clear H1 H2 hst e1
      go_wp2_with fail
      obtain ⟨wx, hwx⟩ : ∃ wx, wx = wr := ⟨_, rfl⟩
      subst hwx
      go_loopw [6] (fun x wr => ∃ (r : Nat) (us : List Value), r ≤ 70 ∧ x = .int .i64 r ∧ us.length = k ∧ Own wr 22 (.slice (some ⟨g3, 0, none⟩) k uc) us ∧ Grown w.heap.size wr vs us (full L) (ap L r 0) ∧ OwnN wr 30 4 (.slice (some ⟨g0, 0, none⟩) k c0) k xs ∧ Turn (Lb vs) w wr) (fun x _ => 70 - (intOf x).toNat)
      case atStart => exact ⟨0, vs, by omega, rfl, hn, OU, GR, OC, T⟩
      case round =>
        clear OU GR OC T
        obtain ⟨r, us, hr, rfl, hus, OU, GR, OC, T⟩ := hrel
        by_cases hrl : r < 70
        · have hrl' : (r : Int) < 70 := by omega
          go_wp2_with fail
          obtain ⟨wy, hwy⟩ : ∃ wy, wy = wr := ⟨_, rfl⟩
          subst hwy
          go_loopw [7] (fun x wr => ∃ (i : Nat) (us : List Value), i ≤ k ∧ x = .int .i64 i ∧ us.length = k ∧ Own wr 22 (.slice (some ⟨g3, 0, none⟩) k uc) us ∧ Grown w.heap.size wr vs us (full L) (ap L r i) ∧ OwnN wr 30 4 (.slice (some ⟨g0, 0, none⟩) k c0) k xs ∧ Turn (Lb vs) w wr) (fun x _ => k - (intOf x).toNat)
          case atStart => exact ⟨0, us, by omega, rfl, hus, OU, GR, OC, T⟩
          case round =>
            clear OU GR OC T hus us
            obtain ⟨i, us, hi, rfl, hus, OU, GR, OC, T⟩ := hrel
            by_cases hil : i < k
            · have hil' : (i : Int) < (k : Int) := by omega
              obtain ⟨u, hu⟩ : ∃ u, us[i]? = some u := ⟨us[i]'(by omega), List.getElem?_eq_getElem _⟩
              have OI := GR.lot.own i u hu
              obtain ⟨a, cp, rfl, _⟩ := OI.form
              have hLi := hL i
              have hc := OU.cell i _ hu
              have fz : wr.frozen? ⟨g3, i, none⟩ = false := by
                rcases OU.shape with ⟨e, _⟩ | ⟨g', cap', cur, e, ho, _⟩
                · cases e
                · cases e; exact frozen_of_row wr g3 i _ 22 ho
              obtain ⟨ln, hln2⟩ : ∃ ln, Hid ((ap L r i i).length = ln) := ⟨_, rfl⟩
              rw [show (ap L r i i).length = ln from hln2.out] at hu hc OI
              have HLN : Hid (ln = (L i).length + r) := by show _ = _; rw [← hln2.out]; simp [ap, full, full_eq]
              have TA : Turn no wr (wr.alloc (.cells (acs (mkA 20000 i r)).toArray 50)) := (Turn.refl no wr).alloc _
              have hs := src_ac wr (mkA 20000 i r)
              have OI2 := OI.turn_no TA
              simp only [acs, mkA, Int.natCast_add, Int.cast_ofNat_Int] at hs OI2 TA
              go_wp2_with (at_builtin; go_loud (refine wpList_append_srcK rfl (.tmp 64) (.tmp 71) rfl Tryz.underlying22 info39 rfl (by decide) (.slice a ln cp) ln _ rfl OI2 (.slice (some ⟨wr.heap.size, 0, none⟩) 1 1) 1 _ rfl hs ?_ ?_ ?_))
              · have := HLN.out; omega
              · have := HLN.out; simp only [maxLen]; omega
              intro v3 w3 O3 G3 K3
              obtain ⟨a3, c3, ev3, _⟩ := O3.form
              obtain ⟨v, hv⟩ : ∃ v, vs[i]? = some v := ⟨vs[i]'(by omega), List.getElem?_eq_getElem _⟩
              have e5 : ap L r (i + 1) i = ap L r i i ++ [⟨20000 + i, 0, r, 0, false⟩] := ap_self L r i
              have hl5 : (ap L r (i + 1) i).length = ln + 1 := by rw [e5, List.length_append, hln2.out]; rfl
              have mok : Ac.ok ⟨20000 + i, 0, r, 0, false⟩ := ⟨by simp only; omega, by simp, by simp only; omega, by simp⟩
              have O4 : OwnN w3 50 5 v3 (ap L r (i + 1) i).length (acC (ap L r (i + 1) i)) := by rw [hl5, e5, acC_append]; exact O3
              have G4 := GR.step (G2 := ap L r (i + 1)) i _ v3 hu TA G3 K3 ⟨20000 + i, 0, r, 0, false⟩ mok O4 e5 (fun q hq => ap_other L r i q hq) T.size
              have aw1 := (GR.lot.turn_no TA).away (show OwnN _ 22 1 _ _ _ from OU.turn_no TA) (by decide)
              have aw2 := (GR.lot.turn_no TA).away (OC.turn_no TA) (by decide)
              have OU3 := (OU.turn_no TA).turn G3.turn (fun g q1 q2 => aw1 g q1 ⟨i, _, hu, q2⟩)
              have OC3 := (OC.turn_no TA).turn G3.turn (fun g q1 q2 => aw2 g q1 ⟨i, _, hu, q2⟩)
              have T3 : Turn (Lb vs) w w3 := ((T.then_no TA).mono (S' := fun g => Lb vs g ∨ w.heap.size ≤ g) (fun _ _ q => Or.inl q)).trans G3.turn (fun b _ q => (GR.blk i v _ b hv hu q).elim (fun q => Or.inl ⟨i, v, hv, q⟩) Or.inr) |>.mono (fun b hb q => q.elim id (fun q => by omega))
              have fz3 : w3.frozen? ⟨g3, i, none⟩ = false := by
                rcases OU3.shape with ⟨e, _⟩ | ⟨g', cap', cur, e, ho, _⟩
                · cases e
                · cases e; exact frozen_of_row w3 g3 i _ 22 ho
              have hc3 := OU3.cell i _ hu
              have TS := (Turn.refl (fun b => b = g3) w3).setCell (p := ⟨g3, i, none⟩) (fun _ => rfl) v3
              have OU4 := OU3.setAt i v3
              have aw3 := G4.lot.away (v0 := .slice (some ⟨g3, 0, none⟩) k uc) (show OwnN _ 22 1 _ _ _ from OU3) (by decide) g3 rfl
              have hg30 : g0 ≠ g3 := by omega
              have G5 := G4.turn TS (fun g q1 q2 => by subst q2; exact aw3 q1) (fun g q1 q2 => by have := hlow g q1; omega)
              have OC4 := OC3.turn TS (fun g q1 q2 => by cases q1; exact hg30 q2)
              have T4 : Turn (Lb vs) w _ := (T3.mono (S' := fun g => Lb vs g ∨ w.heap.size ≤ g) (fun _ _ q => Or.inl q)).trans TS (fun b _ q => Or.inr (by have : b = g3 := q; omega)) |>.mono (fun b hb q => q.elim id (fun q => by omega))
              have hu4 : (us.set i v3).length = k := by rw [List.length_set]; exact hus
              subst ev3
              clear O3 G3 K3 e5 hl5 mok O4 G4 aw1 aw2 OU3 OC3 T3 TS aw3 GR OU OC T OI OI2 TA hs hc fz hu HLN hln2
              go_wp2_with fail
              go_roundw
              case rel => exact ⟨i + 1, us.set i (.slice a3 (ln + 1) c3), by omega, by go_num, hu4, OU4, G5, OC4, T4⟩
              case measure => simp [intOf]; omega
            · have hie : i = k := by omega
              subst hie
              have hil' : ¬ (i : Int) < (i : Int) := by omega
              go_wp2_with fail
              go_roundw
              case rel => exact ⟨r + 1, us, by omega, by go_num, hus, OU, GR.to (fun q hq => ap_next L r i q (by omega)) (fun q => List.prefix_append _ _), OC, T⟩
              case measure => simp [intOf]; omega
        · have hre : r = 70 := by omega
          subst hre
          go_wp2_with fail
          obtain ⟨wy, hwy⟩ : ∃ wy, wy = wr := ⟨_, rfl⟩
          subst hwy
          go_loopw [8] (fun x wr => ∃ i : Nat, i ≤ k ∧ x = .int .i64 i ∧ Turn no wy wr) (fun x _ => k - (intOf x).toNat)
          case atStart => exact ⟨0, by omega, rfl, Turn.refl _ _⟩
          case round =>
            obtain ⟨i, hi, rfl, TI⟩ := hrel
            by_cases hil : i < k
            · have hil' : (i : Int) < (k : Int) := by omega
              obtain ⟨v, hv⟩ : ∃ v, vs[i]? = some v := ⟨vs[i]'(by omega), List.getElem?_eq_getElem _⟩
              obtain ⟨a, cp, rfl⟩ := hSz i v hv
              obtain ⟨u, hu⟩ : ∃ u, us[i]? = some u := ⟨us[i]'(by omega), List.getElem?_eq_getElem _⟩
              obtain ⟨a0, cp0, e0, MA⟩ := GR.ms i _ hv
              rw [show (full L i).length = (L i).length by simp [full, full_eq]] at e0
              cases e0
              have ln2 : (ap L 70 0 i).length = (L i).length + 70 := by simp [ap, full, full_eq]
              obtain ⟨gi, ci, eu, R⟩ := (GR.lot.own i u hu).at0 (by intro q; rw [q] at ln2; simp at ln2) (GR.lot.ok i u hu)
              rw [ln2] at eu
              subst eu
              have MA := MA.turn_no TI
              have R := R.turn_no TI
              have hc := (OC.turn_no TI).cellAt (i * 4) _ (hx i _ hv)
              have hd := (OU.turn_no TI).cell i _ hu
              have hLi := hL i
              have HTI : Hid (Turn no wy wr) := TI
              have hfl : ∀ j, j < (L i).length → (full L i)[j]? = some ⟨10000 + i, 0, j, 0, false⟩ := fun j hj => by simp [full, full_eq, hj, mkA]
              have hap : ∀ q, q < 70 → (ap L 70 0 i)[(L i).length + q]? = some ⟨20000 + i, 0, q, 0, false⟩ := fun q hq => by
                rw [ap, List.getElem?_append_right (by simp [full, full_eq])]
                simp [full, full_eq, hq, mkA]
              generalize full L i = fl at *
              generalize ap L 70 0 i = al at *
              clear ln2
              obtain ⟨ln, hln⟩ : ∃ ln, Hid ((L i).length = ln) := ⟨_, rfl⟩
              rw [show (L i).length = ln from hln.out] at hc hd hLi hfl hap
              go_wp2_with fail
              obtain ⟨wz, hwz⟩ : ∃ wz, wz = wr := ⟨_, rfl⟩
              subst hwz
              clear OC OU GR T TI hv hu hL hSz haw hlow
              go_loopw [10] (fun x wr => ∃ j : Nat, j ≤ ln ∧ x = .int .i64 j ∧ Turn no wz wr) (fun x _ => ln - (intOf x).toNat)
              case atStart => exact ⟨0, by omega, rfl, Turn.refl _ _⟩
              case round =>
                obtain ⟨j, hj, rfl, TJ⟩ := hrel
                have hc := TJ.keep hc (fun q => q)
                have hd := TJ.keep hd (fun q => q)
                by_cases hjl : j < ln
                · have hjl' : (j : Int) < (ln : Int) := by omega
                  obtain ⟨bb, off, rfl, c0, c1, c2, c3, c4⟩ := (MA.turn_no TJ).cells j _ (hfl j hjl)
                  simp only [Int.natCast_add, Int.cast_ofNat_Int] at c0 c1 c2 c3 c4
                  go_wp2_with fail
                  go_roundw
                  case rel => exact ⟨j + 1, by omega, by go_num, TJ⟩
                  case measure => simp [intOf]; omega
                · have hjl' : ¬ (j : Int) < (ln : Int) := by omega
                  go_wp2_with fail
                  obtain ⟨wv, hwv⟩ : ∃ wv, wv = wr := ⟨_, rfl⟩
                  subst hwv
                  go_loopw [11] (fun x wr => ∃ q : Nat, q ≤ 70 ∧ x = .int .i64 q ∧ Turn no wv wr) (fun x _ => 70 - (intOf x).toNat)
                  case atStart => exact ⟨0, by omega, rfl, Turn.refl _ _⟩
                  case round =>
                    obtain ⟨q, hq, rfl, TQ⟩ := hrel
                    have hd := TQ.keep hd (fun q => q)
                    by_cases hql : q < 70
                    · have hql' : (q : Int) < 70 := by omega
                      obtain ⟨bq, oq, eq0, c0, c1, c2, c3, c4⟩ := ((R.turn_no TJ).turn_no TQ).cells (ln + q) _ (hap q hql)
                      cases eq0
                      simp only [Nat.zero_add] at c0 c1 c2 c3 c4
                      simp only [Int.natCast_add, Int.cast_ofNat_Int] at c0 c1 c2 c3 c4
                      go_wp2_with fail
                      go_roundw
                      case rel => exact ⟨q + 1, by omega, by go_num, TQ⟩
                      case measure => simp [intOf]; omega
                    · have hql' : ¬ (q : Int) < 70 := by omega
                      go_wp2_with fail
                      go_roundw
                      case rel => exact ⟨i + 1, by omega, by go_num, (HTI.out.then_no TJ).then_no TQ⟩
                      case measure => simp [intOf]; omega
            · have hil' : ¬ (i : Int) < (k : Int) := by omega
              go_wp2_with fail
              go_ret
              exact ⟨rfl, T.then_no TI⟩
end Go.Proofs.YtaoigopjfelgpaaGreatDoor
