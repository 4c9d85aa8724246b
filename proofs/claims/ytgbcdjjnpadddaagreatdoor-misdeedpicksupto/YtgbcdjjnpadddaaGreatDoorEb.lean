/- Texts in one. -/
import Derived.Test.YtgbcdjjnpadddaaGreatDoorE2
import Derived.Test.YtgbcdjjnpadddaaGreatDoorDq
/- The reference's Sum of no bytes. -/
namespace Go.Proofs.YtgbcdjjnpadddaaGreatDoor
open Go.RowKit
set_option linter.unusedVariables false

set_option maxRecDepth 100000 in
set_option maxHeartbeats 4000000 in
theorem rsum_none (w : World) (av : Option Addr) (cap : Nat) (hb : Bs w (.slice av 0 cap) []) (hl : Laid0 w) (h2 : 3 ≤ w.heap.size) :
    Calls Tryz.prog 117 #[.slice av 0 cap] w fun e w' => e = .returned (.agg ((hashOf []).map bv).toArray) ∧ Turn no w w' := by
  obtain ⟨bs, hbs⟩ : ∃ bs : List UInt8, bs = [] := ⟨_, rfl⟩
  rw [← hbs] at hb ⊢
  obtain ⟨n, hn0⟩ : ∃ n : Nat, n = 0 := ⟨_, rfl⟩
  have hn : n = bs.length := by rw [hbs, hn0]; rfl
  have hz0 : (0 : Nat) = n := hn0.symm
  have hN : Hid (n = bs.length) := hn
  have hsz : n ≤ 140737488355328 := by omega
  have hdl : ∀ k, (bs.drop k).length = n - k := fun k => by rw [hn, List.length_drop]
  have hn00 : Hid (n = 0) := hn0
  have hbd : Hid (bs = []) := hbs
  rw [hz0] at hb ⊢
  clear hn hn0 hz0 hbs
  go_enter Tryz.func117, Tryz.ntmps117
  go_wp2_with fail
  go_loopw [4] (fun c wr => ∃ (k m : Nat), m = 64 * k ∧ m ≤ n ∧ c = .int .i64 (m : Int) ∧ Row wr (w.heap.size + 1) (lit8 (shaP bs k)) 238 ∧ (∃ z, Row wr w.heap.size z 26 ∧ z.size = 32) ∧ Turn no w wr) (fun c _ => n - (intOf c).toNat)
  case atStart =>
    refine ⟨0, 0, rfl, Nat.zero_le _, rfl, ?_, ⟨_, Row.alloc (Row.new w _ 26) _, rfl⟩, ((Turn.refl no w).alloc _).alloc _⟩
    exact Row.newAt' _ _ _ _ (by simp)
  case round =>
    obtain ⟨k, m, hm, hk, rfl, Rh, ⟨z, Rz, hz⟩, T⟩ := hrel
    by_cases hge : m + 64 ≤ n
    · exact absurd hge (by have := hn00.out; omega)
    · have hge' : ¬ (m : Int) + 64 ≤ (n : Int) := by omega
      have hM : Hid (m = 64 * k) := hm
      have hkn : Hid (k = n / 64) := show k = n / 64 by omega
      have hmm : Hid (n % 64 = n - m) := show n % 64 = n - m by omega
      have hm0 : m = 0 := by have := hn00.out; omega
      obtain ⟨a1, ha1⟩ : ∃ a1 : Option Addr, a1 = if cap = m then av else av.map (·.add (m * 1)) := ⟨_, rfl⟩
      have hsl2 : ∀ W, (Instr.slice 124 (.slice av n cap) (some (.int .i64 (m : Int))) none none).run Tryz.prog W = .ok (.slice a1 (n - m) (cap - m)) W := fun W => by
        rw [run_slice_l (P := Tryz.prog) W 124 av n cap (by kernel_rfl) .i64 (m : Int) (by omega) (by omega)]
        rw [show (sizeOf (Tryz.prog.elem 124)).run Tryz.prog W = .ok 1 W by kernel_rfl, ha1]
        simp [sliced]
      have B1 : Bs wr (.slice a1 (n - m) (cap - m)) (bs.drop m) := by
        have e1 : a1 = av := by
          rw [ha1, hm0]
          split
          · rfl
          · cases av <;> simp [Addr.add_zero']
        have hx := hb.turn_no T
        rw [e1, hm0, Nat.sub_zero, Nat.sub_zero, hbd.out, List.drop_nil]
        rw [hbd.out] at hx
        exact hx
      clear hm0
      have hT : Hid (∀ k, (bs.drop k).length = n - k) := hdl
      obtain ⟨tl, htl⟩ : ∃ tl, tl = bs.drop m := ⟨_, rfl⟩
      have hTL : Hid (tl = bs.drop m) := htl
      have htn : tl.length = n - m := by rw [htl, hdl]
      have htn' : Hid (tl.length = n - m) := htn
      have hrl : Hid (n % 64 = tl.length ∧ tl.length < 64) := show n % 64 = tl.length ∧ tl.length < 64 by omega
      have hS := Bs.src (P := Tryz.prog) Tryz.underlying124 B1
      rw [← htl, htn] at hS
      clear hm ha1 hdl htl htn
      go_wp2_with (at_builtin; refine wpList_append_src rfl (.tmp 26) (.tmp 29) rfl Tryz.underlying124 Tryz.info5 rfl _ [] rfl (Own.nil _ _) _ (n - m) (tl.map bv) rfl ?src ?b ?m ?_)
      case b => omega
      case m => simp only [maxLen]; omega
      intro v1 w1 O1 G1 _
      have Rh1 := Rh.turn G1.turn (fun q => by cases q)
      have Rz1 := Rz.turn G1.turn (fun q => by cases q)
      have T1 : Turn no w w1 := T.fresh G1 (fun g q => by cases q)
      have f1 : ∀ g, v1.ownBlock = some g → w.heap.size + 1 < g := fun g q => by
        have := G1.fresh (B := w.heap.size + 2) (fun g q => by cases q) (by have := Rh.lt; omega) g q
        omega
      clear hS B1 G1 Rh Rz T
      obtain ⟨ad1, cp1, hv1⟩ := (show Own w1 5 v1 (tl.map bv) by simpa using O1).bs.slice
      subst hv1
      go_wp2_with (at_builtin; refine wpList_append_src rfl (.tmp 31) (.tmp 32) rfl Tryz.underlying124 Tryz.info5 rfl _ (tl.map bv) rfl (O1.turn_no ((Turn.refl no w1).alloc _)) _ 1 (List.map bv [128]) rfl ?src2 ?b2 ?m2 ?_)
      case src2 => exact src_byte Tryz.underlying124 w1 _ _ rfl
      case b2 => rw [List.length_map, htn'.out]; omega
      case m2 => rw [List.length_map, htn'.out]; simp only [maxLen]; omega
      intro v2 w2 O2 G2 _
      have O2' : Own w2 5 v2 ((zl tl 0).map bv) := by simpa [zl] using O2
      have Rh2 := (Rh1.alloc _).turn G2.turn (fun q => by have := f1 _ q; omega)
      have Rz2 := (Rz1.alloc _).turn G2.turn (fun q => by have := f1 _ q; omega)
      have T2 : Turn no w w2 := (T1.alloc _).fresh G2 (fun g q => by have := f1 g q; omega)
      have f2 : ∀ g, v2.ownBlock = some g → w.heap.size + 1 < g := fun g q => by
        have := G2.fresh (B := w.heap.size + 2) (fun g q => by have := f1 g q; omega) (by have := Rh1.lt; simp; omega) g q
        omega
      clear O2 G2 O1 Rh1 Rz1 T1 f1
      obtain ⟨a2, c2, hv2⟩ := O2'.bs.slice
      subst hv2
      go_wp2_with fail
      go_loopw [5] (fun v wr => ∃ (j : Nat), j + 1 ≤ fillOf n ∧ Own wr 5 v ((zl tl j).map bv) ∧ (∀ g, v.ownBlock = some g → w.heap.size + 1 < g) ∧ Row wr (w.heap.size + 1) (lit8 (shaP bs k)) 238 ∧ Row wr w.heap.size z 26 ∧ Turn no w wr)
        (fun v _ => match v with | .slice _ l _ => 200 - l | _ => 0)
      case atStart => exact ⟨0, (fill_pos n).1, O2', f2, Rh2, Rz2, T2⟩
      case round =>
        clear O2' f2 Rh2 Rz2 T2
        obtain ⟨j, hj, O, f, Rh, Rz, T⟩ := hrel
        have hfp := fill_pos n
        have hl2 : (zl tl j).length = tl.length + (j + 1) := zl_len tl j
        obtain ⟨a3, c3, hv3⟩ := O.bs.slice
        obtain ⟨L, hL⟩ : ∃ L, L = (zl tl j).length := ⟨_, rfl⟩
        rw [← hL] at hv3
        have hLL : Hid (L = tl.length + (j + 1)) := show L = tl.length + (j + 1) by omega
        have hLs : L ≤ 150 := by have := hrl.out; omega
        have hOl : ((zl tl j).map bv).length = L := by rw [List.length_map, hL]
        subst hv3
        by_cases hlt : j + 1 < fillOf n
        · have hne : (((L : Int) % 64) != 56) = true := by
            have := hrl.out
            have h3 : L % 64 ≠ 56 := by have := hLL.out; unfold fillOf at hlt; omega
            simp
            omega
          clear hL hl2
          go_wp2_with (at_builtin; refine wpList_append_src rfl (.tmp 38) (.tmp 39) rfl Tryz.underlying124 Tryz.info5 rfl _ ((zl tl j).map bv) rfl (O.turn_no ((Turn.refl no wr).alloc _)) _ 1 (List.map bv [0]) rfl ?src3 ?b3 ?m3 ?_)
          case src3 => exact src_byte Tryz.underlying124 wr _ _ rfl
          case b3 => rw [hOl]; omega
          case m3 => rw [hOl]; simp only [maxLen]; omega
          intro v4 w4 O4 G4 _
          have O4' : Own w4 5 v4 ((zl tl (j + 1)).map bv) := by
            rw [zl_succ, List.map_append]
            exact O4
          have f4 : ∀ g, v4.ownBlock = some g → w.heap.size + 1 < g := fun g q => by
            have := G4.fresh (B := w.heap.size + 2) (fun g q => by have := f g q; omega) (by have := Rh.lt; simp; omega) g q
            omega
          have Rh4 := (Rh.alloc _).turn G4.turn (fun q => by have := f _ q; omega)
          have Rz4 := (Rz.alloc _).turn G4.turn (fun q => by have := f _ q; omega)
          have T4 : Turn no w w4 := (T.alloc _).fresh G4 (fun g q => by have := f g q; omega)
          obtain ⟨a4, c4, hv4⟩ := O4'.bs.slice
          have hl4 : (zl tl (j + 1)).length = L + 1 := by rw [zl_len]; have := hLL.out; omega
          rw [hl4] at hv4
          subst hv4
          clear O4 G4 O
          go_wp2_with fail
          go_roundw
          case rel => exact ⟨j + 1, hlt, O4', f4, Rh4, Rz4, T4⟩
          case measure => simp; omega
        · have hjf : j = fillOf n - 1 := by omega
          have hne : (((L : Int) % 64) != 56) = false := by
            have := hrl.out
            have h3 : L % 64 = 56 := by have := hLL.out; rw [hjf] at this; unfold fillOf at this; omega
            simp
            omega
          have hLf : Hid (L = tl.length + fillOf n) := show L = tl.length + fillOf n by have := hLL.out; omega
          have O0 : Own wr 5 (.slice a3 L c3) ((ll tl n 0).map bv) := by
            have e : ll tl n 0 = zl tl j := by simp [ll, hjf]
            rw [e]
            exact O
          have hw8 : IntKind.u64.wrap ((n : Int) * 8) = (n : Int) * 8 := by rw [IntKind.wrap_u64]; omega
          clear O hL hl2 hOl hj hlt hjf
          go_wp2_with fail
          go_loopw [5, 7] (fun v i wr => ∃ (c : Nat), c ≤ 8 ∧ i = .int .i64 (7 - (c : Int)) ∧ Own wr 5 v ((ll tl n c).map bv) ∧ (∀ g, v.ownBlock = some g → w.heap.size + 1 < g) ∧ Row wr (w.heap.size + 1) (lit8 (shaP bs k)) 238 ∧ Row wr w.heap.size z 26 ∧ Turn no w wr)
            (fun _ i _ => (intOf i + 1).toNat)
          case atStart => exact ⟨0, by omega, rfl, O0, f, Rh, Rz, T⟩
          case round =>
            clear O0 f Rh Rz T
            obtain ⟨c, hc, rfl, O, f, Rh, Rz, T⟩ := hrel
            have hl3 := ll_len tl n c
            obtain ⟨a5, c5, hv5⟩ := O.bs.slice
            obtain ⟨L5, hL5⟩ : ∃ L, L = (ll tl n c).length := ⟨_, rfl⟩
            rw [← hL5] at hv5
            have hOl : ((ll tl n c).map bv).length = L5 := by rw [List.length_map, hL5]
            have hLs5 : L5 ≤ 200 := by have := hrl.out; omega
            subst hv5
            by_cases hlt : c < 8
            · have hlt' : (0 : Int) ≤ 7 - (c : Int) := by omega
              have hlt'' : (0 : Int) ≤ 8 * (7 - (c : Int)) := by omega
              have hl5 : (ll tl n (c + 1)).length = L5 + 1 := by rw [ll_len]; omega
              have hlt3 : (c : Int) ≤ 7 := by omega
              clear hL5 hl3
              go_wp2_with (at_builtin; refine wpList_append_src rfl (.tmp 49) (.tmp 56) rfl Tryz.underlying124 Tryz.info5 rfl _ ((ll tl n c).map bv) rfl (O.turn_no ((Turn.refl no wr).alloc _)) _ 1 (List.map bv [byteOf ((n : Int) * 8 / 2 ^ (8 * (7 - c)))]) rfl ?src4 ?b4 ?m4 ?_)
              case src4 => exact src_byte Tryz.underlying124 wr _ _ (byteOf_val _).symm
              case b4 => rw [hOl]; omega
              case m4 => rw [hOl]; simp only [maxLen]; omega
              intro v6 w6 O6 G6 _
              have O6' : Own w6 5 v6 ((ll tl n (c + 1)).map bv) := by
                rw [ll_succ, List.map_append]
                exact O6
              have f6 : ∀ g, v6.ownBlock = some g → w.heap.size + 1 < g := fun g q => by
                have := G6.fresh (B := w.heap.size + 2) (fun g q => by have := f g q; omega) (by have := Rh.lt; simp; omega) g q
                omega
              have Rh6 := (Rh.alloc _).turn G6.turn (fun q => by have := f _ q; omega)
              have Rz6 := (Rz.alloc _).turn G6.turn (fun q => by have := f _ q; omega)
              have T6 : Turn no w w6 := (T.alloc _).fresh G6 (fun g q => by have := f g q; omega)
              obtain ⟨a6, c6, hv6⟩ := O6'.bs.slice
              rw [hl5] at hv6
              subst hv6
              clear O6 G6 O
              go_wp2_with fail
              go_roundw
              case rel => exact ⟨c + 1, by omega, by go_num, O6', f6, Rh6, Rz6, T6⟩
              case measure => simp [intOf]; omega
            · have hc8 : c = 8 := by omega
              subst hc8
              have hlt' : ¬ (0 : Int) ≤ 7 - (8 : Int) := by omega
              have hEp := ll_pad tl n
              rw [hEp] at O hL5 hl3 hOl
              obtain ⟨E, hE⟩ : ∃ E, E = tl ++ padOf n := ⟨_, rfl⟩
              rw [← hE] at O hL5 hl3 hOl
              have hHE : Hid (E = tl ++ padOf n) := hE
              have hLm : Hid (L5 % 64 = 0 ∧ 64 ≤ L5) := show L5 % 64 = 0 ∧ 64 ≤ L5 by
                have := hrl.out
                unfold fillOf at hl3
                omega
              have BE := O.bs
              have hLE : Hid (L5 = E.length) := hL5
              obtain ⟨b6, o6, cp6, hv6, hcp6, _⟩ := BE.at (by have := hLm.out; omega)
              simp only [Value.slice.injEq] at hv6
              obtain ⟨ha5, hle2, hc5⟩ := hv6
              subst ha5 hc5
              have hcp7 : L5 ≤ c5 := by omega
              clear hcp6 hle2
              have hD : Hid (∀ t, (shaP (bs ++ padOf n) (k + (t + 1))) = compress (shaP (bs ++ padOf n) (k + t)) ((E.drop (64 * t)).take 64)) := fun t => by
                rw [show k + (t + 1) = k + t + 1 by omega, shaP, hHE.out, hTL.out]
                congr 2
                have h1 : 64 * k ≤ bs.length := by have := hN.out; have := hM.out; omega
                rw [show 64 * (k + t) = 64 * k + 64 * t by omega, ← List.drop_drop, List.drop_append_of_le_length h1, hM.out]
              have hS0 : shaP (bs ++ padOf n) k = shaP bs k := shaP_app _ _ _ (by have := hN.out; have := hM.out; omega)
              rw [← hS0] at Rh
              have hSF : Hid (shaP (bs ++ padOf n) (k + L5 / 64) = shaOf bs) := by
                have h1 : (bs ++ padOf n).length / 64 = k + L5 / 64 := by
                  have hnn := hN.out
                  have hpl : (padOf n).length = fillOf n + 8 := by simp [padOf]
                  have := hLE.out
                  have := hTL.out
                  have h5 := htn'.out
                  have h6 : E.length = tl.length + (fillOf n + 8) := by rw [hHE.out, List.length_append, hpl]
                  have := hM.out
                  rw [List.length_append, hpl, ← hnn]
                  omega
                show shaP (bs ++ padOf n) (k + L5 / 64) = shaOf bs
                rw [← h1, shaOf, shaW, ← hN.out]
              clear O hL5 hl3 hOl hEp hE hc hlt hS0
              have hb6 : b6 ≠ w.heap.size + 1 := by have := f b6 rfl; omega
              go_wp2_with fail
              go_loopw [8] (fun i wr => ∃ (t m2 : Nat), m2 = 64 * t ∧ m2 ≤ L5 ∧ i = .int .i64 (m2 : Int) ∧ Row wr (w.heap.size + 1) (lit8 (shaP (bs ++ padOf n) (k + t))) 238 ∧ Row wr w.heap.size z 26 ∧ Bs wr (.slice (some ⟨b6, o6, none⟩) L5 c5) E ∧ Turn no w wr) (fun i _ => L5 - (intOf i).toNat)
              case atStart => exact ⟨0, 0, rfl, Nat.zero_le _, rfl, Rh, Rz, BE, T⟩
              case round =>
                clear Rh Rz BE T
                obtain ⟨t, m2, hm2, hk2, rfl, Rh, Rz, BE', T⟩ := hrel
                have hlm := hLm.out
                by_cases hlt2 : m2 < L5
                · have hlt2' : (m2 : Int) < (L5 : Int) := by omega
                  have hge2 : m2 + 64 ≤ L5 := by omega
                  have hb64 : Bs wr (.slice (some ⟨b6, o6 + m2, none⟩) 64 (c5 - m2)) ((E.drop m2).take 64) := by
                    have h1 := (BE'.from m2 (by rw [← hLE.out]; omega) (some ⟨b6, o6 + m2, none⟩) (fun _ => rfl))
                    rw [← hLE.out] at h1
                    exact bs_cut h1 64 (by rw [List.length_drop, ← hLE.out]; omega)
                  have hblk := fun W (u : Turn no wr W) => block_lit W (shaP (bs ++ padOf n) (k + t)) (shaP_len _ _) _ _ (hb64.turn_no u) (by rw [List.length_take, List.length_drop, ← hLE.out]; omega) (hl.turn (T.then_no u) (fun q => q)) (by have := (T.then_no u).size; omega)
                  have hnx : shaP (bs ++ padOf n) (k + (t + 1)) = compress (shaP (bs ++ padOf n) (k + t)) ((E.drop m2).take 64) := by rw [hm2]; exact hD.out t
                  rw [← hnx] at hblk
                  have hM2 : Hid (m2 = 64 * t) := hm2
                  clear hm2 hb64 hnx
                  have hR := Rh
                  have hL8 : Hid (lit8 (shaP (bs ++ padOf n) (k + (t + 1))) = #[.int .u32 ((shaP (bs ++ padOf n) (k + (t + 1))).getD 0 0), .int .u32 ((shaP (bs ++ padOf n) (k + (t + 1))).getD 1 0), .int .u32 ((shaP (bs ++ padOf n) (k + (t + 1))).getD 2 0), .int .u32 ((shaP (bs ++ padOf n) (k + (t + 1))).getD 3 0), .int .u32 ((shaP (bs ++ padOf n) (k + (t + 1))).getD 4 0), .int .u32 ((shaP (bs ++ padOf n) (k + (t + 1))).getD 5 0), .int .u32 ((shaP (bs ++ padOf n) (k + (t + 1))).getD 6 0), .int .u32 ((shaP (bs ++ padOf n) (k + (t + 1))).getD 7 0)]) := rfl
                  unfold lit8 at hR hblk
                  generalize (shaP (bs ++ padOf n) (k + t)).getD 0 0 = x0 at *
                  generalize (shaP (bs ++ padOf n) (k + (t + 1))).getD 0 0 = y0 at *
                  generalize (shaP (bs ++ padOf n) (k + t)).getD 1 0 = x1 at *
                  generalize (shaP (bs ++ padOf n) (k + (t + 1))).getD 1 0 = y1 at *
                  generalize (shaP (bs ++ padOf n) (k + t)).getD 2 0 = x2 at *
                  generalize (shaP (bs ++ padOf n) (k + (t + 1))).getD 2 0 = y2 at *
                  generalize (shaP (bs ++ padOf n) (k + t)).getD 3 0 = x3 at *
                  generalize (shaP (bs ++ padOf n) (k + (t + 1))).getD 3 0 = y3 at *
                  generalize (shaP (bs ++ padOf n) (k + t)).getD 4 0 = x4 at *
                  generalize (shaP (bs ++ padOf n) (k + (t + 1))).getD 4 0 = y4 at *
                  generalize (shaP (bs ++ padOf n) (k + t)).getD 5 0 = x5 at *
                  generalize (shaP (bs ++ padOf n) (k + (t + 1))).getD 5 0 = y5 at *
                  generalize (shaP (bs ++ padOf n) (k + t)).getD 6 0 = x6 at *
                  generalize (shaP (bs ++ padOf n) (k + (t + 1))).getD 6 0 = y6 at *
                  generalize (shaP (bs ++ padOf n) (k + t)).getD 7 0 = x7 at *
                  generalize (shaP (bs ++ padOf n) (k + (t + 1))).getD 7 0 = y7 at *
                  have cc0 := hR.cell 0 _ rfl
                  have cc1 := hR.cell 1 _ rfl
                  have cc2 := hR.cell 2 _ rfl
                  have cc3 := hR.cell 3 _ rfl
                  have cc4 := hR.cell 4 _ rfl
                  have cc5 := hR.cell 5 _ rfl
                  have cc6 := hR.cell 6 _ rfl
                  have cc7 := hR.cell 7 _ rfl
                  have hc1 : ¬ c5 = m2 := by omega
                  have hc2 : (m2 : Int) + 64 ≤ (c5 : Int) := by omega
                  have hc3 : m2 + 64 - m2 = 64 := by omega
                  have hc5' : (m2 : Int) ≤ (m2 : Int) + 64 := by omega
                  have hc6 : ((m2 : Int) + 64).toNat = m2 + 64 := by omega
                  have hw64 : IntKind.i64.wrap ((m2 : Int) + 64) = (m2 : Int) + 64 := by rw [IntKind.wrap_i64]; omega
                  have hw65 : (m2 : Int) + 64 ≤ 9223372036854775807 := by omega
                  have hD' : Turn no wr wr.drew := (Turn.refl no wr).drew
                  go_wp2_with fail
                  go_region_with (go_at_call 149; refine (hblk _ hD').mono ?_; rintro e w5 ⟨rfl, t5⟩; have R5 := (hR.drew).turn t5 (fun q => q); have d0 := R5.cell 0 _ rfl; have d1 := R5.cell 1 _ rfl; have d2 := R5.cell 2 _ rfl; have d3 := R5.cell 3 _ rfl; have d4 := R5.cell 4 _ rfl; have d5 := R5.cell 5 _ rfl; have d6 := R5.cell 6 _ rfl; have d7 := R5.cell 7 _ rfl; have fz := fun j => R5.frozen j)
                  all_goals
                    go_wp2_with fail
                    go_roundw
                    case rel =>
                      refine ⟨t + 1, m2 + 64, by rw [hM2.out]; omega, hge2, by go_num, ?_, ((((((((((Rz.drew).turn t5 (fun q => q)).other (by show w.heap.size + 1 ≠ w.heap.size; omega) _).other (by show w.heap.size + 1 ≠ w.heap.size; omega) _).other (by show w.heap.size + 1 ≠ w.heap.size; omega) _).other (by show w.heap.size + 1 ≠ w.heap.size; omega) _).other (by show w.heap.size + 1 ≠ w.heap.size; omega) _).other (by show w.heap.size + 1 ≠ w.heap.size; omega) _).other (by show w.heap.size + 1 ≠ w.heap.size; omega) _).other (by show w.heap.size + 1 ≠ w.heap.size; omega) _), ((((((((((BE'.turn_no hD').turn_no t5).turn (Turn.setCell (S := fun k => k = w.heap.size + 1) (p := ⟨w.heap.size + 1, 0, none⟩) (Turn.refl _ _) (fun _ => rfl) _) (fun g q r => hb6 (by cases q; exact r))).turn (Turn.setCell (S := fun k => k = w.heap.size + 1) (p := ⟨w.heap.size + 1, 1, none⟩) (Turn.refl _ _) (fun _ => rfl) _) (fun g q r => hb6 (by cases q; exact r))).turn (Turn.setCell (S := fun k => k = w.heap.size + 1) (p := ⟨w.heap.size + 1, 2, none⟩) (Turn.refl _ _) (fun _ => rfl) _) (fun g q r => hb6 (by cases q; exact r))).turn (Turn.setCell (S := fun k => k = w.heap.size + 1) (p := ⟨w.heap.size + 1, 3, none⟩) (Turn.refl _ _) (fun _ => rfl) _) (fun g q r => hb6 (by cases q; exact r))).turn (Turn.setCell (S := fun k => k = w.heap.size + 1) (p := ⟨w.heap.size + 1, 4, none⟩) (Turn.refl _ _) (fun _ => rfl) _) (fun g q r => hb6 (by cases q; exact r))).turn (Turn.setCell (S := fun k => k = w.heap.size + 1) (p := ⟨w.heap.size + 1, 5, none⟩) (Turn.refl _ _) (fun _ => rfl) _) (fun g q r => hb6 (by cases q; exact r))).turn (Turn.setCell (S := fun k => k = w.heap.size + 1) (p := ⟨w.heap.size + 1, 6, none⟩) (Turn.refl _ _) (fun _ => rfl) _) (fun g q r => hb6 (by cases q; exact r))).turn (Turn.setCell (S := fun k => k = w.heap.size + 1) (p := ⟨w.heap.size + 1, 7, none⟩) (Turn.refl _ _) (fun _ => rfl) _) (fun g q r => hb6 (by cases q; exact r))), ((((((((((T.drew).then_no t5).setCell (fun r => by have r' : w.heap.size + 1 < w.heap.size := r; omega) _).setCell (fun r => by have r' : w.heap.size + 1 < w.heap.size := r; omega) _).setCell (fun r => by have r' : w.heap.size + 1 < w.heap.size := r; omega) _).setCell (fun r => by have r' : w.heap.size + 1 < w.heap.size := r; omega) _).setCell (fun r => by have r' : w.heap.size + 1 < w.heap.size := r; omega) _).setCell (fun r => by have r' : w.heap.size + 1 < w.heap.size := r; omega) _).setCell (fun r => by have r' : w.heap.size + 1 < w.heap.size := r; omega) _).setCell (fun r => by have r' : w.heap.size + 1 < w.heap.size := r; omega) _)⟩
                      rw [hL8.out]
                      exact Row.up8 R5 _ _ _ _ _ _ _ _
                    case measure => simp [intOf]; omega
                · have hlt2' : ¬ (m2 : Int) < (L5 : Int) := by omega
                  have htL : k + t = k + L5 / 64 := by omega
                  rw [htL, hSF.out] at Rh
                  have hwl : (shaOf bs).length = 8 := shaP_len _ _
                  generalize hwsE : shaOf bs = ws at *
                  have HE : Hid (shaOf bs = ws) := hwsE
                  have hcl : ∀ j, j < 8 → (lit8 ws)[j]? = some (.int .u32 (ws.getD j 0)) := fun j hj => by
                    have : j = 0 ∨ j = 1 ∨ j = 2 ∨ j = 3 ∨ j = 4 ∨ j = 5 ∨ j = 6 ∨ j = 7 := by omega
                    rcases this with rfl | rfl | rfl | rfl | rfl | rfl | rfl | rfl <;> rfl
                  generalize lit8 ws = lw at *
                  have hq1 := Rh.lt
                  clear hm2 hwsE htL BE'
                  obtain ⟨q9, hq9⟩ : ∃ q, q = wr.heap.size := ⟨_, rfl⟩
                  have hQ9 : Hid (q9 = wr.heap.size) := hq9
                  have hq2 : w.heap.size + 1 < q9 := by omega
                  clear hq9 hq1
                  go_wp2_with fail
                  rw [← hQ9.out]
                  go_loopw [10] (fun c wx => ∃ (k : Nat) (ou : Array Value), k ≤ 32 ∧ c = .int .i64 k ∧ Row wx q9 ou 26 ∧ ou.size = 32 ∧ (∀ j, j < k → ou[j]? = some (bv (hashAt ws j))) ∧ Row wx (w.heap.size + 1) lw 238 ∧ Row wx w.heap.size z 26 ∧ Turn no w wx) (fun c _ => 32 - (intOf c).toNat)
                  case atStart => exact ⟨0, _, Nat.zero_le _, rfl, Row.newAt' _ _ _ _ hQ9.out, rfl, fun j q => by omega, Rh.alloc _, Rz.alloc _, T.alloc _⟩
                  case round =>
                    clear Rh Rz T
                    obtain ⟨k5, ou, hk5, rfl, Ro, hos, hou, Rm, Rz, T⟩ := hrel
                    by_cases hlt5 : k5 < 32
                    · have hlt5' : (k5 : Int) < 32 := by omega
                      have cw := Rm.cell (k5 / 4) _ (hcl (k5 / 4) (by omega))
                      have co := Ro.cell k5 (ou[k5]'(by omega)) (by simp [hos, hlt5])
                      have fo := Ro.frozen k5
                      have hq8 : (k5 : Int) / 4 < 8 := by omega
                      have hr3 : (0 : Int) ≤ 24 - 8 * ((k5 : Int) % 4) := by omega
                      have hha : bv (hashAt ws k5) = .int .u8 (ws.getD (k5 / 4) 0 / 2 ^ (8 * (3 - k5 % 4)) % 256) := bv_byteOf _
                      generalize ws.getD (k5 / 4) 0 = x at *
                      have hsh : 24 - 8 * (k5 % 4) = 8 * (3 - k5 % 4) := by omega
                      go_wp2_with fail
                      go_roundw
                      case rel =>
                        refine ⟨k5 + 1, _, by omega, by go_num, Ro.set k5 _, by simpa using hos, fun j hj => ?_, Rm.other (by show q9 ≠ w.heap.size + 1; omega) _, Rz.other (by show q9 ≠ w.heap.size; omega) _, T.setCell (fun r => by have r' : q9 < w.heap.size := r; omega) _⟩
                        by_cases hjk : j = k5
                        · subst hjk
                          rw [Array.getElem?_setIfInBounds_self_of_lt (by omega), hha]
                        · rw [Array.getElem?_setIfInBounds_ne (by omega)]
                          exact hou j (by omega)
                      case measure => simp [intOf]; omega
                    · have hlt5' : ¬ (k5 : Int) < 32 := by omega
                      have hk32 : k5 = 32 := by omega
                      subst hk32
                      have hwhole : ou = (((List.range 32).map (hashAt ws)).map bv).toArray := by
                        apply Array.ext
                        · simp [hos]
                        · intro i h1 h2
                          have := hou i (by omega)
                          rw [Array.getElem?_eq_getElem h1] at this
                          simp at this
                          simp [this]
                      have HW : Hid (ou = (((List.range 32).map (hashAt ws)).map bv).toArray) := hwhole
                      have h1 : ou.all (·.oneCell') = true := by rw [hwhole]; simp [bv, Value.oneCell']
                      have hi : (Tryz.prog.info? 26).map (·.size) = some ou.size := by rw [hos]; exact size35
                      clear hwhole hou hcl
                      go_wp2_with (first
                        | (refine wpList_load_row rfl 26 (.tmp 9) rfl q9 rfl 26 ou (0, 0) _ Ro Tryz.underlying26 rfl hi ?_)
                        | (refine wpList_store_row rfl 26 (.tmp 2) (.tmp 88) rfl w.heap.size ou rfl rfl 26 z Rz hi (by omega) h1 ?_))
                      refine bodyPost_ret (v := .agg ou) ?_ rfl ⟨by rw [HW.out, hashOf, HE.out], T.setRow _ _ (fun q => by omega)⟩
                      exact results_cell_row (P := Tryz.prog) Tryz.results117 _ _ w.heap.size 26 ou (0, 0) _ rfl (setRow_heap _ _ _ _ _ _ Rz) Tryz.underlying26 rfl hi
end Go.Proofs.YtgbcdjjnpadddaaGreatDoor



/- The reference's Sum. -/
namespace Go.Proofs.YtgbcdjjnpadddaaGreatDoor
open Go.RowKit
set_option linter.unusedVariables false

theorem rsum_all (w : World) (va : Value) (bs : List UInt8) (hb : Bs w va bs) (hl : Laid0 w) (h2 : 3 ≤ w.heap.size) (hsz : bs.length ≤ 140737488355328) :
    Calls Tryz.prog 117 #[va] w fun e w' => e = .returned (.agg (hv bs)) ∧ Turn no w w' := by
  by_cases h0 : bs = []
  · subst h0
    obtain ⟨a, c, rfl⟩ := hb.slice
    exact rsum_none w a c hb hl h2
  · exact rsum_any w va bs hb hl h2 hsz (by cases bs with | nil => exact (h0 rfl).elim | cons => simp)

end Go.Proofs.YtgbcdjjnpadddaaGreatDoor


