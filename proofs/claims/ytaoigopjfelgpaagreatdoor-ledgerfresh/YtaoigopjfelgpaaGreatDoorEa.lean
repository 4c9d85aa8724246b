/- Texts in one. -/
import Derived.Test.YtaoigopjfelgpaaGreatDoorDa
import Derived.Test.YtaoigopjfelgpaaGreatDoorCm
import Derived.Deep.RegionWith
import Derived.Deep.AppendSrc
import Derived.Deep.RegionHeld3
/- The reference's block: the same words. -/
namespace Go.Proofs.YtaoigopjfelgpaaGreatDoor
open Go.RowKit
set_option linter.unusedVariables false

def okc (c : Int) : Bool := c == 2 || c == 6 || c == 7 || c == 11 || c == 13 || c == 17 || c == 18 || c == 19 || c == 22 || c == 25
def rotC (c x : Int) : Int := rotI (2 ^ c.toNat) (2 ^ (32 - c).toNat) x
theorem turnC (w : World) (x c : Int) (hc : okc c = true) : Calls Tryz.prog 98 #[.int .u32 x, .int .u64 c] w fun e w' => e = .returned (.int .u32 (rotC c x)) ∧ w' = w := by
  simp [okc, or_assoc] at hc
  rcases hc with rfl | rfl | rfl | rfl | rfl | rfl | rfl | rfl | rfl | rfl
  · exact turn2 w x
  · exact turn6 w x
  · exact turn7 w x
  · exact turn11 w x
  · exact turn13 w x
  · exact turn17 w x
  · exact turn18 w x
  · exact turn19 w x
  · exact turn22 w x
  · exact turn25 w x
theorem turnQ0 (W : World) (x : Nat) (v c : Int) (hc : okc c = true) : Calls Tryz.prog 98 #[.int .u32 v, .int .u64 c] (W.drewN x) fun e w' => e = .returned (.int .u32 (rotC c v)) ∧ ∃ m, w' = W.drewN m :=
  (turnC _ v c hc).mono (fun _ _ q => ⟨q.1, x, q.2⟩)
theorem turnQ (W : World) (n x : Nat) (v c : Int) (hc : okc c = true) : Calls Tryz.prog 98 #[.int .u32 v, .int .u64 c] (W.drewN (n + x)) fun e w' => e = .returned (.int .u32 (rotC c v)) ∧ ∃ m, w' = W.drewN (n + m) :=
  (turnC _ v c hc).mono (fun _ _ q => ⟨q.1, x, q.2⟩)

theorem arr8 (v0 v1 v2 v3 v4 v5 v6 v7 u0 u1 u2 u3 u4 u5 u6 u7 : Value) : (((((((((#[v0, v1, v2, v3, v4, v5, v6, v7] : Array Value).setIfInBounds 7 u7).setIfInBounds 6 u6).setIfInBounds 5 u5).setIfInBounds 4 u4).setIfInBounds 3 u3).setIfInBounds 2 u2).setIfInBounds 1 u1).setIfInBounds 0 u0) = #[u0, u1, u2, u3, u4, u5, u6, u7] := by kernel_rfl
theorem rotC2 (x : Int) : rotC 2 x = rotI 4 1073741824 x := rfl
theorem rotC6 (x : Int) : rotC 6 x = rotI 64 67108864 x := rfl
theorem rotC11 (x : Int) : rotC 11 x = rotI 2048 2097152 x := rfl
theorem rotC13 (x : Int) : rotC 13 x = rotI 8192 524288 x := rfl
theorem rotC22 (x : Int) : rotC 22 x = rotI 4194304 1024 x := rfl
theorem rotC25 (x : Int) : rotC 25 x = rotI 33554432 128 x := rfl
theorem step_eq (a b c d e f g h y x : Int) : step ⟨a, b, c, d, e, f, g, h⟩ y x = ⟨(h + bits .xor .u32 (bits .xor .u32 (rotC 6 e) (rotC 11 e)) (rotC 25 e) + bits .xor .u32 (bits .and .u32 e f) (bits .and .u32 (bits .xor .u32 IntKind.u32.max e) g) + y + x + bits .xor .u32 (bits .xor .u32 (rotC 2 a) (rotC 13 a)) (rotC 22 a) + bits .xor .u32 (bits .xor .u32 (bits .and .u32 a b) (bits .and .u32 a c)) (bits .and .u32 b c)) % 4294967296, a, b, c, (d + (h + bits .xor .u32 (bits .xor .u32 (rotC 6 e) (rotC 11 e)) (rotC 25 e) + bits .xor .u32 (bits .and .u32 e f) (bits .and .u32 (bits .xor .u32 IntKind.u32.max e) g) + y + x)) % 4294967296, e, f, g⟩ := by
  simp only [step, big1, big0, ch, maj, rotC2, rotC6, rotC11, rotC13, rotC22, rotC25]

theorem Row.set8 {w : World} {q : Nat} {e : TypeId} {v0 v1 v2 v3 v4 v5 v6 v7 : Value} (h : Row w q #[v0, v1, v2, v3, v4, v5, v6, v7] e) (u0 u1 u2 u3 u4 u5 u6 u7 : Value) : Row ((((((((w.setCell ⟨q, 7, none⟩ u7).setCell ⟨q, 6, none⟩ u6).setCell ⟨q, 5, none⟩ u5).setCell ⟨q, 4, none⟩ u4).setCell ⟨q, 3, none⟩ u3).setCell ⟨q, 2, none⟩ u2).setCell ⟨q, 1, none⟩ u1).setCell ⟨q, 0, none⟩ u0) q #[u0, u1, u2, u3, u4, u5, u6, u7] e := by
  have r := ((((((((h.set 7 u7).set 6 u6).set 5 u5).set 4 u4).set 3 u3).set 2 u2).set 1 u1).set 0 u0)
  rw [arr8] at r
  exact r

/-- Eight words as a value. -/
def wv (ws : List Int) : Array Value := (ws.map (Value.int .u32)).toArray
theorem size25 : (Tryz.prog.info? 119).map (·.size) = some 8 := by kernel_rfl

set_option maxRecDepth 100000 in
set_option maxHeartbeats 4000000 in
theorem block_any (w : World) (ws : List Int) (h8 : ws.length = 8) (va : Value) (bs : List UInt8) (hb : Bs w va bs) (h64 : bs.length = 64) (hl : Laid0 w) (h2 : 2 ≤ w.heap.size) :
    Calls Tryz.prog 72 #[.agg (wv ws), va] w fun e w' => e = .returned (.agg (wv (compress ws bs))) ∧ Turn no w w' := by
  obtain ⟨b, o, cap, rfl, hlc, hat⟩ := hb.at (by omega)
  clear hat
  rw [h64] at hlc ⊢
  have hws : (wv ws).size = 8 := by simp [wv, h8]
  have hwg : ∀ j, j < 8 → (wv ws)[j]? = some (.int .u32 (ws.getD j 0)) := fun j hj => by simp [wv, h8, hj]
  have h1 : (wv ws).all (·.oneCell') = true := by simp [wv, Value.oneCell']
  have hi : (Tryz.prog.info? 119).map (·.size) = some (wv ws).size := by rw [hws]; exact size25
  generalize wv ws = hA at *
  go_enter Tryz.func72, Tryz.ntmps72
  go_wp2_with fail
  go_loopw [6] (fun c wr => ∃ (k : Nat) (arr : Array Value), k ≤ 16 ∧ c = .int .i64 k ∧ Row wr (w.heap.size + 1 + 1) arr 143 ∧ arr.size = 64 ∧ Fill arr ((List.range k).map (wordAt bs)) ∧ Row wr w.heap.size hA 119 ∧ (∃ z, Row wr (w.heap.size + 1) z 119 ∧ z.size = 8) ∧ Turn no w wr) (fun c _ => 16 - (intOf c).toNat)
  case atStart => exact ⟨0, _, Nat.zero_le _, rfl, by simpa [Row] using heap_alloc_new ((w.alloc _).alloc _) _, rfl, fun j q => by simp at q, ((Row.new w _ _).alloc _).alloc _, ⟨_, Row.alloc (by simpa [Row] using heap_alloc_new (w.alloc _) _) _, rfl⟩, (((Turn.refl no w).alloc _).alloc _).alloc _⟩
  case round =>
    obtain ⟨k, arr, hk, rfl, hg, hs, ha, hH, ⟨z, hz, hzs⟩, T⟩ := hrel
    by_cases hlt : k < 16
    · have hlt' : (k : Int) < 16 := by omega
      have hb' := hb.turn_no T
      have c0 := hb'.byte (4 * k) (by omega)
      have c1 := hb'.byte (4 * k + 1) (by omega)
      have c2 := hb'.byte (4 * k + 2) (by omega)
      have c3 := hb'.byte (4 * k + 3) (by omega)
      clear hb hb' hwg
      have cu := hg.cell k arr[k] (by simp)
      have fz := hg.frozen k
      go_wp2_with fail
      go_region
      go_wp2_with fail
      go_roundw
      case rel =>
        refine ⟨k + 1, _, by omega, by go_num, (hg.set k _).drew, by simpa using hs, ?_, (hH.other (by show w.heap.size + 1 + 1 ≠ w.heap.size; omega) _).drew, ⟨z, (hz.other (by show w.heap.size + 1 + 1 ≠ w.heap.size + 1; omega) _).drew, hzs⟩, (T.setCell (fun q => by have q' : w.heap.size + 1 + 1 < w.heap.size := q; omega) _).drew⟩
        rw [List.range_succ, List.map_append]
        exact ha.push (wordAt bs k) (by simp; omega) k (by simp)
      case measure => simp [intOf]; omega
    · have hlt' : ¬ (k : Int) < 16 := by omega
      have hk16 : k = 16 := by omega
      subst hk16
      go_wp2_with fail
      go_loopw [7] (fun c wr => ∃ (n : Nat) (arr : Array Value), n ≤ 48 ∧ c = .int .i64 ((n + 16 : Nat) : Int) ∧ Row wr (w.heap.size + 1 + 1) arr 143 ∧ arr.size = 64 ∧ Fill arr (plan bs n) ∧ Row wr w.heap.size hA 119 ∧ (∃ z, Row wr (w.heap.size + 1) z 119 ∧ z.size = 8) ∧ Turn no w wr) (fun c _ => 64 - (intOf c).toNat)
      case atStart => exact ⟨0, arr, Nat.zero_le _, rfl, hg, hs, ha, hH, ⟨z, hz, hzs⟩, T⟩
      case round =>
        clear hg hs ha hz hzs T hH
        obtain ⟨n, arr, hn, rfl, hg, hs, ha, hH, ⟨z, hz, hzs⟩, T⟩ := hrel
        have hpl := plan_len bs n
        by_cases hlt : n < 48
        · have hlt' : ((n + 16 : Nat) : Int) < 64 := by omega
          have g16 : wr.cell? ⟨w.heap.size + 1 + 1, n, none⟩ = some (.int .u32 ((plan bs n).getD n 0)) := hg.cell n _ (ha n (by omega))
          have g15 : wr.cell? ⟨w.heap.size + 1 + 1, n + 1, none⟩ = some (.int .u32 ((plan bs n).getD (n + 1) 0)) := hg.cell _ _ (ha (n + 1) (by omega))
          have g7 : wr.cell? ⟨w.heap.size + 1 + 1, n + 9, none⟩ = some (.int .u32 ((plan bs n).getD (n + 9) 0)) := hg.cell _ _ (ha (n + 9) (by omega))
          have g2 : wr.cell? ⟨w.heap.size + 1 + 1, n + 14, none⟩ = some (.int .u32 ((plan bs n).getD (n + 14) 0)) := hg.cell _ _ (ha (n + 14) (by omega))
          have cu := hg.cell (n + 16) arr[n + 16] (by simp)
          have fz := hg.frozen (n + 16)
          have hnw : nextW (plan bs n) = ((plan bs n).getD n 0 + sig0 ((plan bs n).getD (n + 1) 0) + (plan bs n).getD (n + 9) 0 + sig1 ((plan bs n).getD (n + 14) 0)) % 4294967296 := by
            unfold nextW
            rw [hpl, show n + 16 - 16 = n by omega, show n + 16 - 15 = n + 1 by omega, show n + 16 - 7 = n + 9 by omega, show n + 16 - 2 = n + 14 by omega]
          clear hb hwg
          generalize (plan bs n).getD n 0 = x16 at *
          generalize (plan bs n).getD (n + 1) 0 = x15 at *
          generalize (plan bs n).getD (n + 9) 0 = x7 at *
          generalize (plan bs n).getD (n + 14) 0 = x2 at *
          go_wp2_with fail
          go_quiet ((first | (go_at_call 98; exact turnQ0 _ _ _ _ rfl)))
          go_wp2_with fail
          go_quiet ((first | (go_at_call 98; exact turnQ _ _ _ _ _ rfl)))
          go_wp2_with fail
          go_region
          go_wp2_with fail
          go_roundw
          case rel =>
            refine ⟨n + 1, _, by omega, by go_num, (hg.drewN _).set (n + 16) _, by simpa using hs, ?_, (hH.drewN _).other (by show w.heap.size + 1 + 1 ≠ w.heap.size; omega) _, ⟨z, (hz.drewN _).other (by show w.heap.size + 1 + 1 ≠ w.heap.size + 1; omega) _, hzs⟩, (T.drewN _).setCell (fun q => by have q' : w.heap.size + 1 + 1 < w.heap.size := q; omega) _⟩
            have hp := ha.push (nextW (plan bs n)) (by omega) (n + 16) (by omega)
            rw [hnw] at hp
            rw [plan, hnw]
            exact hp
          case measure => simp [intOf]; omega
        · have hlt' : ¬ ((n + 16 : Nat) : Int) < 64 := by omega
          have hn48 : n = 48 := by omega
          subst hn48
          have hcp : ∀ j, j < 8 → (compress ws bs).getD j 0 = (ws.getD j 0 + (rounds (plan bs 48) (St.of ws) 64).list.getD j 0) % 4294967296 := fun j hj => by simp [compress, hj]
          have hcl : (compress ws bs).length = 8 := by simp [compress]
          generalize hcE : compress ws bs = cw at *
          have HC : Hid (compress ws bs = cw) := hcE
          have hlt8 := hg.lt
          have hpi : ∀ k, k < 64 → arr[k]? = some (.int .u32 ((plan bs 48).getD k 0)) := fun k hk => ha k (by omega)
          generalize plan bs 48 = pl at *
          have hl' := hl.turn T (fun q => q)
          have hAe : hA = #[.int .u32 (St.of ws).a, .int .u32 (St.of ws).b, .int .u32 (St.of ws).c, .int .u32 (St.of ws).d, .int .u32 (St.of ws).e, .int .u32 (St.of ws).f, .int .u32 (St.of ws).g, .int .u32 (St.of ws).h] := by
            apply Array.ext_getElem?
            intro j
            by_cases hj : j < 8
            · rw [hwg j hj, st_idx _ j hj]
              have : j = 0 ∨ j = 1 ∨ j = 2 ∨ j = 3 ∨ j = 4 ∨ j = 5 ∨ j = 6 ∨ j = 7 := by omega
              rcases this with rfl | rfl | rfl | rfl | rfl | rfl | rfl | rfl <;> rfl
            · rw [Array.getElem?_eq_none (by omega), Array.getElem?_eq_none (by simp; omega)]
          have HA : Hid (hA = #[.int .u32 (St.of ws).a, .int .u32 (St.of ws).b, .int .u32 (St.of ws).c, .int .u32 (St.of ws).d, .int .u32 (St.of ws).e, .int .u32 (St.of ws).f, .int .u32 (St.of ws).g, .int .u32 (St.of ws).h]) := hAe
          clear hb ha hcE hAe
          go_wp2_with (first
            | (refine wpList_load_row rfl 119 (.tmp 2) rfl w.heap.size rfl 119 hA (0, 0) _ hH Tryz.underlying119 rfl hi ?_)
            | (refine wpList_store_row rfl 119 (.tmp 10) (.tmp 110) rfl wr.heap.size hA rfl rfl 119 _ (heap_alloc_new wr _) hi (by rw [hws]; rfl) h1 ?_))
          rw [World.setRow_alloc_new]
          have RV := Row.new wr hA 119
          have hgv := hg.alloc (.cells hA 119)
          have hHv := hH.alloc (.cells hA 119)
          have hzv := hz.alloc (.cells hA 119)
          have Tv : Turn no w (wr.alloc (.cells hA 119)) := T.alloc _
          generalize wr.alloc (.cells hA 119) = wv0 at *
          rw [HA.out] at RV
          have hlq : w.heap.size + 1 + 1 < wr.heap.size := hlt8
          generalize wr.heap.size = q at *
          clear hg hH hz T hl'
          have lv := hl.turn Tv (fun q => q)
          go_loopw [11] (fun c wr => ∃ (k : Nat) (st : St), k ≤ 64 ∧ c = .int .i64 k ∧ st = rounds pl (St.of ws) k ∧ Row wr q #[.int .u32 st.a, .int .u32 st.b, .int .u32 st.c, .int .u32 st.d, .int .u32 st.e, .int .u32 st.f, .int .u32 st.g, .int .u32 st.h] 119 ∧ Row wr (w.heap.size + 1 + 1) arr 143 ∧ Row wr w.heap.size hA 119 ∧ Row wr (w.heap.size + 1) z 119 ∧ Turn no w wr) (fun c _ => 64 - (intOf c).toNat)
          case atStart => exact ⟨0, St.of ws, Nat.zero_le _, rfl, rfl, RV, hgv, hHv, hzv, Tv⟩
          case round =>
            clear RV hgv hHv hzv Tv lv
            obtain ⟨k, st, hk, rfl, hst, RV, hg, hH, hz, T⟩ := hrel
            by_cases hlt : k < 64
            · have hlt' : (k : Int) < 64 := by omega
              have cp := hg.cell k _ (hpi k hlt)
              have ck := (hl.turn T (fun q => q)) k hlt
              have hnx : rounds pl (St.of ws) (k + 1) = step st (ks.getD k 0) (pl.getD k 0) := by rw [rounds, ← hst]
              have hsg : IntKind.u32.signed = false := rfl
              clear hst hpi hcp hwg
              obtain ⟨a, b', c, d, e', f, g, h⟩ := st
              simp only at RV
              have v0 := RV.cell 0 _ rfl
              have v1 := RV.cell 1 _ rfl
              have v2 := RV.cell 2 _ rfl
              have v3 := RV.cell 3 _ rfl
              have v4 := RV.cell 4 _ rfl
              have v5 := RV.cell 5 _ rfl
              have v6 := RV.cell 6 _ rfl
              have v7 := RV.cell 7 _ rfl
              have fv := fun j => RV.frozen j
              generalize pl.getD k 0 = x at *
              generalize ks.getD k 0 = y at *
              go_wp2_with fail
              go_quiet ((first | (go_at_call 98; exact turnQ0 _ _ _ _ rfl)))
              go_wp2_with fail
              go_quiet (fail)
              go_wp2_with fail
              go_quiet ((first | (go_at_call 98; exact turnQ _ _ _ _ _ rfl)))
              go_wp2_with fail
              go_roundw
              case rel =>
                refine ⟨k + 1, step ⟨a, b', c, d, e', f, g, h⟩ y x, by omega, by go_num, hnx.symm, ?_, (((((((((hg.drewN _).other (by show q ≠ w.heap.size + 1 + 1; omega) _).other (by show q ≠ w.heap.size + 1 + 1; omega) _).other (by show q ≠ w.heap.size + 1 + 1; omega) _).other (by show q ≠ w.heap.size + 1 + 1; omega) _).other (by show q ≠ w.heap.size + 1 + 1; omega) _).other (by show q ≠ w.heap.size + 1 + 1; omega) _).other (by show q ≠ w.heap.size + 1 + 1; omega) _).other (by show q ≠ w.heap.size + 1 + 1; omega) _), (((((((((hH.drewN _).other (by show q ≠ w.heap.size; omega) _).other (by show q ≠ w.heap.size; omega) _).other (by show q ≠ w.heap.size; omega) _).other (by show q ≠ w.heap.size; omega) _).other (by show q ≠ w.heap.size; omega) _).other (by show q ≠ w.heap.size; omega) _).other (by show q ≠ w.heap.size; omega) _).other (by show q ≠ w.heap.size; omega) _), (((((((((hz.drewN _).other (by show q ≠ w.heap.size + 1; omega) _).other (by show q ≠ w.heap.size + 1; omega) _).other (by show q ≠ w.heap.size + 1; omega) _).other (by show q ≠ w.heap.size + 1; omega) _).other (by show q ≠ w.heap.size + 1; omega) _).other (by show q ≠ w.heap.size + 1; omega) _).other (by show q ≠ w.heap.size + 1; omega) _).other (by show q ≠ w.heap.size + 1; omega) _), (((((((((T.drewN _).setCell (fun r => by have r' : q < w.heap.size := r; omega) _).setCell (fun r => by have r' : q < w.heap.size := r; omega) _).setCell (fun r => by have r' : q < w.heap.size := r; omega) _).setCell (fun r => by have r' : q < w.heap.size := r; omega) _).setCell (fun r => by have r' : q < w.heap.size := r; omega) _).setCell (fun r => by have r' : q < w.heap.size := r; omega) _).setCell (fun r => by have r' : q < w.heap.size := r; omega) _).setCell (fun r => by have r' : q < w.heap.size := r; omega) _)⟩
                rw [step_eq]
                exact Row.set8 (RV.drewN _) _ _ _ _ _ _ _ _
              case measure => simp [intOf]; omega
            · have hlt' : ¬ (k : Int) < 64 := by omega
              have hk64 : k = 64 := by omega
              subst hk64
              rw [← hst] at hcp
              clear hst hpi
              go_wp2_with fail
              go_loopw [17] (fun i wr => ∃ (k : Nat) (ar : Array Value), k ≤ 8 ∧ i = .int .i64 k ∧ Row wr w.heap.size ar 119 ∧ ar.size = 8 ∧ (∀ j, j < k → ar[j]? = some (.int .u32 (cw.getD j 0))) ∧ (∀ j, k ≤ j → j < 8 → ar[j]? = some (.int .u32 (ws.getD j 0))) ∧ Row wr q #[.int .u32 st.a, .int .u32 st.b, .int .u32 st.c, .int .u32 st.d, .int .u32 st.e, .int .u32 st.f, .int .u32 st.g, .int .u32 st.h] 119 ∧ Row wr (w.heap.size + 1) z 119 ∧ Turn no w wr) (fun i _ => 8 - (intOf i).toNat)
              case atStart => exact ⟨0, hA, Nat.zero_le _, rfl, hH, hws, fun j r => by omega, fun j _ hj => hwg j hj, RV, hz, T⟩
              case round =>
                clear hg hH RV hz T hwg hws
                obtain ⟨k, ar, hk, rfl, hH, has, hd, ho, RV, hz, T⟩ := hrel
                by_cases hlt : k < 8
                · have hlt' : (k : Int) < 8 := by omega
                  have ch := hH.cell k _ (ho k (by omega) hlt)
                  have cv := RV.cell k _ (st_idx st k hlt)
                  have fh := hH.frozen k
                  have hck := hcp k hlt
                  generalize st.list.getD k 0 = x at *
                  generalize ws.getD k 0 = y at *
                  clear hcp
                  go_wp2_with fail
                  go_region
                  go_wp2_with fail
                  go_roundw
                  case rel =>
                    refine ⟨k + 1, _, by omega, by go_num, (hH.set k _).drew, by simpa using has, fun j hj => ?_, fun j h1 h2 => ?_, (RV.other (by show w.heap.size ≠ q; omega) _).drew, (hz.other (by show w.heap.size ≠ w.heap.size + 1; omega) _).drew, (T.setCell (fun r => by have r' : w.heap.size < w.heap.size := r; omega) _).drew⟩
                    · by_cases hjk : j = k
                      · subst hjk
                        rw [Array.getElem?_setIfInBounds_self_of_lt (by omega), hck]
                      · rw [Array.getElem?_setIfInBounds_ne (by omega)]
                        exact hd j (by omega)
                    · rw [Array.getElem?_setIfInBounds_ne (by omega)]
                      exact ho j (by omega) h2
                  case measure => simp [intOf]; omega
                · have hlt' : ¬ (k : Int) < 8 := by omega
                  have hk8 : k = 8 := by omega
                  subst hk8
                  have hwhole : ar = wv cw := by
                    apply Array.ext_getElem?
                    intro j
                    by_cases hj : j < 8
                    · rw [hd j hj]
                      simp [wv, show j < cw.length by omega]
                    · rw [Array.getElem?_eq_none (by omega), Array.getElem?_eq_none (by simp [wv]; omega)]
                  have HW : Hid (ar = wv cw) := hwhole
                  have h1' : ar.all (·.oneCell') = true := by rw [hwhole]; simp [wv, Value.oneCell']
                  have hi' : (Tryz.prog.info? 119).map (·.size) = some ar.size := by rw [has]; exact size25
                  clear hwhole hd ho hcp
                  go_wp2_with (first
                    | (refine wpList_load_row rfl 119 (.tmp 2) rfl w.heap.size rfl 119 ar (0, 0) _ hH Tryz.underlying119 rfl hi' ?_)
                    | (refine wpList_store_row rfl 119 (.tmp 4) (.tmp 222) rfl (w.heap.size + 1) ar rfl rfl 119 z hz hi' (by omega) h1' ?_))
                  refine bodyPost_ret (v := .agg ar) ?_ rfl ⟨by rw [HW.out, HC.out], T.setRow _ _ (fun r => by omega)⟩
                  exact results_cell_row (P := Tryz.prog) Tryz.results72 _ _ (w.heap.size + 1) 119 ar (0, 0) _ rfl (setRow_heap _ _ _ _ _ _ hz) Tryz.underlying119 rfl hi'
end Go.Proofs.YtaoigopjfelgpaaGreatDoor



/- The reference's Sum. -/
namespace Go.Proofs.YtaoigopjfelgpaaGreatDoor
open Go.RowKit
set_option linter.unusedVariables false

theorem Row.newAt' (w : World) (cs : Array Value) (e : TypeId) (g : Nat) (h : g = w.heap.size) : Row (w.alloc (.cells cs e)) g cs e := by subst h; exact Row.new w cs e
/-- Eight words, cell for cell. -/
def lit8 (ws : List Int) : Array Value := #[.int .u32 (ws.getD 0 0), .int .u32 (ws.getD 1 0), .int .u32 (ws.getD 2 0), .int .u32 (ws.getD 3 0), .int .u32 (ws.getD 4 0), .int .u32 (ws.getD 5 0), .int .u32 (ws.getD 6 0), .int .u32 (ws.getD 7 0)]
theorem wv_lit8 (ws : List Int) (h : ws.length = 8) : wv ws = lit8 ws := by
  match ws, h with
  | [a, b, c, d, e, f, g, h], _ => rfl
theorem compress_len (ws : List Int) (bs : List UInt8) : (compress ws bs).length = 8 := by simp [compress]
theorem shaP_len (bs : List UInt8) (n : Nat) : (shaP bs n).length = 8 := by
  cases n with
  | zero => rfl
  | succ n => exact compress_len _ _
theorem lit8_h0 : lit8 h0 = #[.int .u32 1779033703, .int .u32 3144134277, .int .u32 1013904242, .int .u32 2773480762, .int .u32 1359893119, .int .u32 2600822924, .int .u32 528734635, .int .u32 1541459225] := rfl
theorem block_lit (w : World) (ws : List Int) (h8 : ws.length = 8) (va : Value) (bs : List UInt8) (hb : Bs w va bs) (h64 : bs.length = 64) (hl : Laid0 w) (h2 : 2 ≤ w.heap.size) :
    Calls Tryz.prog 72 #[.agg (lit8 ws), va] w fun e w' => e = .returned (.agg (lit8 (compress ws bs))) ∧ Turn no w w' := by
  have := block_any w ws h8 va bs hb h64 hl h2
  rw [wv_lit8 ws h8, wv_lit8 _ (compress_len ws bs)] at this
  exact this

theorem arr8up (v0 v1 v2 v3 v4 v5 v6 v7 u0 u1 u2 u3 u4 u5 u6 u7 : Value) : (((((((((#[v0, v1, v2, v3, v4, v5, v6, v7] : Array Value).setIfInBounds 0 u0).setIfInBounds 1 u1).setIfInBounds 2 u2).setIfInBounds 3 u3).setIfInBounds 4 u4).setIfInBounds 5 u5).setIfInBounds 6 u6).setIfInBounds 7 u7) = #[u0, u1, u2, u3, u4, u5, u6, u7] := by kernel_rfl
theorem Row.up8 {w : World} {q : Nat} {e : TypeId} {v0 v1 v2 v3 v4 v5 v6 v7 : Value} (h : Row w q #[v0, v1, v2, v3, v4, v5, v6, v7] e) (u0 u1 u2 u3 u4 u5 u6 u7 : Value) : Row ((((((((w.setCell ⟨q, 0, none⟩ u0).setCell ⟨q, 1, none⟩ u1).setCell ⟨q, 2, none⟩ u2).setCell ⟨q, 3, none⟩ u3).setCell ⟨q, 4, none⟩ u4).setCell ⟨q, 5, none⟩ u5).setCell ⟨q, 6, none⟩ u6).setCell ⟨q, 7, none⟩ u7) q #[u0, u1, u2, u3, u4, u5, u6, u7] e := by
  have r := ((((((((h.set 0 u0).set 1 u1).set 2 u2).set 3 u3).set 4 u4).set 5 u5).set 6 u6).set 7 u7)
  rw [arr8up] at r
  exact r

/-- What the reference lays behind the whole blocks: the zeros, the length's bytes. -/
def zl (tl : List UInt8) (j : Nat) : List UInt8 := tl ++ 128 :: List.replicate j 0
def ll (tl : List UInt8) (n c : Nat) : List UInt8 := zl tl (fillOf n - 1) ++ (List.range c).map fun t => byteOf ((n : Int) * 8 / 2 ^ (8 * (7 - t)))
theorem fill_pos (n : Nat) : 1 ≤ fillOf n ∧ fillOf n ≤ 64 := by unfold fillOf; omega
theorem ll_pad (tl : List UInt8) (n : Nat) : ll tl n 8 = tl ++ padOf n := by
  unfold ll zl
  rw [List.append_assoc]
  congr 1
  have hf := fill_pos n
  apply List.ext_getElem?
  intro j
  unfold padOf
  by_cases h0 : j = 0
  · subst h0
    simp [tailAt]
  · by_cases h1 : j < fillOf n
    · rw [List.getElem?_append_left (by simp; omega)]
      obtain ⟨i, rfl⟩ : ∃ i, j = i + 1 := ⟨j - 1, by omega⟩
      rw [List.getElem?_cons_succ, List.getElem?_replicate, if_pos (by omega), List.getElem?_map, List.getElem?_range (by omega)]
      simp only [Option.map_some, tailAt]
      rw [if_neg h0, if_neg (by omega)]
    · rw [List.getElem?_append_right (by simp; omega)]
      by_cases h2 : j < fillOf n + 8
      · rw [List.getElem?_map, List.getElem?_map, List.getElem?_range (by simp; omega), List.getElem?_range (by omega)]
        simp only [Option.map_some, tailAt]
        rw [if_neg h0, if_pos (by omega)]
        simp only [List.length_cons, List.length_replicate]
        rw [show fillOf n - 1 + 1 = fillOf n by omega]
      · rw [List.getElem?_eq_none (by simp; omega), List.getElem?_eq_none (by simp; omega)]
theorem zl_len (tl : List UInt8) (j : Nat) : (zl tl j).length = tl.length + (j + 1) := by simp [zl]
theorem zl_succ (tl : List UInt8) (j : Nat) : zl tl (j + 1) = zl tl j ++ [0] := by
  simp [zl, List.replicate_succ']
theorem ll_len (tl : List UInt8) (n c : Nat) : (ll tl n c).length = tl.length + fillOf n + c := by
  have := fill_pos n
  simp [ll, zl_len]; omega
theorem ll_succ (tl : List UInt8) (n c : Nat) : ll tl n (c + 1) = ll tl n c ++ [byteOf ((n : Int) * 8 / 2 ^ (8 * (7 - c)))] := by
  simp [ll, List.range_succ]

set_option maxRecDepth 100000 in
set_option maxHeartbeats 4000000 in
theorem rsum_any (w : World) (va : Value) (bs : List UInt8) (hb : Bs w va bs) (hl : Laid0 w) (h2 : 2 ≤ w.heap.size) (hsz : bs.length ≤ 140737488355328) (hpos : 0 < bs.length) :
    Calls Tryz.prog 47 #[va] w fun e w' => e = .returned (.agg ((hashOf bs).map bv).toArray) ∧ Turn no w w' := by
  obtain ⟨b0, o0, cap, rfl, hlc, hat⟩ := hb.at hpos
  clear hat
  have hcm : cap ≤ maxLen := by
    rcases hb with ⟨q, _⟩ | ⟨a', c', q, _, q2, _⟩
    · cases q
    · cases q; exact q2
  obtain ⟨n, hn⟩ : ∃ n, n = bs.length := ⟨_, rfl⟩
  rw [← hn] at hlc hpos hsz ⊢
  have hN : Hid (n = bs.length) := hn
  have hdl : ∀ k, (bs.drop k).length = n - k := fun k => by rw [hn, List.length_drop]
  clear hn
  go_enter Tryz.func47, Tryz.ntmps47
  go_wp2_with fail
  go_loopw [4] (fun c wr => ∃ (k m : Nat), m = 64 * k ∧ m ≤ n ∧ c = .int .i64 (m : Int) ∧ Row wr (w.heap.size + 1) (lit8 (shaP bs k)) 119 ∧ (∃ z, Row wr w.heap.size z 40 ∧ z.size = 32) ∧ Turn no w wr) (fun c _ => n - (intOf c).toNat)
  case atStart =>
    refine ⟨0, 0, rfl, Nat.zero_le _, rfl, ?_, ⟨_, Row.alloc (Row.new w _ 40) _, rfl⟩, ((Turn.refl no w).alloc _).alloc _⟩
    exact Row.newAt' _ _ _ _ (by simp)
  case round =>
    obtain ⟨k, m, hm, hk, rfl, Rh, ⟨z, Rz, hz⟩, T⟩ := hrel
    by_cases hge : m + 64 ≤ n
    · have hge' : (m : Int) + 64 ≤ (n : Int) := by omega
      have hb64 : Bs wr (.slice (some ⟨b0, o0 + m, none⟩) 64 (cap - m)) ((bs.drop m).take 64) := by
        have h1 := ((hb.turn_no T).from m (by rw [← hN.out]; omega) (some ⟨b0, o0 + m, none⟩) (fun _ => rfl))
        rw [← hN.out] at h1
        exact bs_cut h1 64 (by rw [hdl]; omega)
      have hblk := fun W (t : Turn no wr W) => block_lit W (shaP bs k) (shaP_len bs k) _ _ (hb64.turn_no t) (by rw [List.length_take, hdl]; omega) (hl.turn (T.then_no t) (fun q => q)) (by have := (T.then_no t).size; omega)
      have hnx : shaP bs (k + 1) = compress (shaP bs k) ((bs.drop m).take 64) := by rw [hm]; rfl
      rw [← hnx] at hblk
      have hM : Hid (m = 64 * k) := hm
      clear hm hb64 hnx
      have hR := Rh
      have hL : Hid (lit8 (shaP bs (k + 1)) = #[.int .u32 ((shaP bs (k + 1)).getD 0 0), .int .u32 ((shaP bs (k + 1)).getD 1 0), .int .u32 ((shaP bs (k + 1)).getD 2 0), .int .u32 ((shaP bs (k + 1)).getD 3 0), .int .u32 ((shaP bs (k + 1)).getD 4 0), .int .u32 ((shaP bs (k + 1)).getD 5 0), .int .u32 ((shaP bs (k + 1)).getD 6 0), .int .u32 ((shaP bs (k + 1)).getD 7 0)]) := rfl
      unfold lit8 at hR hblk
      generalize (shaP bs k).getD 0 0 = x0 at *
      generalize (shaP bs (k + 1)).getD 0 0 = y0 at *
      generalize (shaP bs k).getD 1 0 = x1 at *
      generalize (shaP bs (k + 1)).getD 1 0 = y1 at *
      generalize (shaP bs k).getD 2 0 = x2 at *
      generalize (shaP bs (k + 1)).getD 2 0 = y2 at *
      generalize (shaP bs k).getD 3 0 = x3 at *
      generalize (shaP bs (k + 1)).getD 3 0 = y3 at *
      generalize (shaP bs k).getD 4 0 = x4 at *
      generalize (shaP bs (k + 1)).getD 4 0 = y4 at *
      generalize (shaP bs k).getD 5 0 = x5 at *
      generalize (shaP bs (k + 1)).getD 5 0 = y5 at *
      generalize (shaP bs k).getD 6 0 = x6 at *
      generalize (shaP bs (k + 1)).getD 6 0 = y6 at *
      generalize (shaP bs k).getD 7 0 = x7 at *
      generalize (shaP bs (k + 1)).getD 7 0 = y7 at *
      have c0 := hR.cell 0 _ rfl
      have c1 := hR.cell 1 _ rfl
      have c2 := hR.cell 2 _ rfl
      have c3 := hR.cell 3 _ rfl
      have c4 := hR.cell 4 _ rfl
      have c5 := hR.cell 5 _ rfl
      have c6 := hR.cell 6 _ rfl
      have c7 := hR.cell 7 _ rfl
      have hc1 : ¬ cap = m := by omega
      have hc2 : (m : Int) + 64 ≤ (cap : Int) := by omega
      have hc3 : m + 64 - m = 64 := by omega
      have hc5 : (m : Int) ≤ (m : Int) + 64 := by omega
      have hc6 : ((m : Int) + 64).toNat = m + 64 := by omega
      have hw64 : IntKind.i64.wrap ((m : Int) + 64) = (m : Int) + 64 := by rw [IntKind.wrap_i64]; omega
      have hw65 : (m : Int) + 64 ≤ 9223372036854775807 := by omega
      have hD : Turn no wr wr.drew := (Turn.refl no wr).drew
      go_wp2_with fail
      go_region_with (go_at_call 72; refine (hblk _ hD).mono ?_; rintro e w5 ⟨rfl, t5⟩; have R5 := (hR.drew).turn t5 (fun q => q); have d0 := R5.cell 0 _ rfl; have d1 := R5.cell 1 _ rfl; have d2 := R5.cell 2 _ rfl; have d3 := R5.cell 3 _ rfl; have d4 := R5.cell 4 _ rfl; have d5 := R5.cell 5 _ rfl; have d6 := R5.cell 6 _ rfl; have d7 := R5.cell 7 _ rfl; have fz := fun j => R5.frozen j)
      all_goals
        go_wp2_with fail
        go_roundw
        case rel =>
          refine ⟨k + 1, m + 64, by rw [hM.out]; omega, hge, by go_num, ?_, ⟨z, ((((((((((Rz.drew).turn t5 (fun q => q)).other (by show w.heap.size + 1 ≠ w.heap.size; omega) _).other (by show w.heap.size + 1 ≠ w.heap.size; omega) _).other (by show w.heap.size + 1 ≠ w.heap.size; omega) _).other (by show w.heap.size + 1 ≠ w.heap.size; omega) _).other (by show w.heap.size + 1 ≠ w.heap.size; omega) _).other (by show w.heap.size + 1 ≠ w.heap.size; omega) _).other (by show w.heap.size + 1 ≠ w.heap.size; omega) _).other (by show w.heap.size + 1 ≠ w.heap.size; omega) _), hz⟩, ((((((((((T.drew).then_no t5).setCell (fun r => by have r' : w.heap.size + 1 < w.heap.size := r; omega) _).setCell (fun r => by have r' : w.heap.size + 1 < w.heap.size := r; omega) _).setCell (fun r => by have r' : w.heap.size + 1 < w.heap.size := r; omega) _).setCell (fun r => by have r' : w.heap.size + 1 < w.heap.size := r; omega) _).setCell (fun r => by have r' : w.heap.size + 1 < w.heap.size := r; omega) _).setCell (fun r => by have r' : w.heap.size + 1 < w.heap.size := r; omega) _).setCell (fun r => by have r' : w.heap.size + 1 < w.heap.size := r; omega) _).setCell (fun r => by have r' : w.heap.size + 1 < w.heap.size := r; omega) _)⟩
          rw [hL.out]
          exact Row.up8 R5 _ _ _ _ _ _ _ _
        case measure => simp [intOf]; omega
    · have hge' : ¬ (m : Int) + 64 ≤ (n : Int) := by omega
      have hM : Hid (m = 64 * k) := hm
      have hkn : Hid (k = n / 64) := show k = n / 64 by omega
      have hmm : Hid (n % 64 = n - m) := show n % 64 = n - m by omega
      obtain ⟨a1, ha1⟩ : ∃ a1 : Option Addr, a1 = if cap = m then some ⟨b0, o0, none⟩ else some ⟨b0, o0 + m, none⟩ := ⟨_, rfl⟩
      have hsl2 : ∀ W, (Instr.slice 94 (.slice (some ⟨b0, o0, none⟩) n cap) (some (.int .i64 (m : Int))) none none).run Tryz.prog W = .ok (.slice a1 (n - m) (cap - m)) W := fun W => by
        rw [run_slice_l (P := Tryz.prog) W 94 (some ⟨b0, o0, none⟩) n cap (by kernel_rfl) .i64 (m : Int) (by omega) (by omega)]
        rw [show (sizeOf (Tryz.prog.elem 94)).run Tryz.prog W = .ok 1 W by kernel_rfl, ha1]
        simp [sliced, Addr.add_lit]
      have B1 := ((hb.turn_no T).from m (by rw [← hN.out]; omega) a1 (fun q => by rw [ha1, if_neg (by omega)]))
      rw [← hN.out] at B1
      have hT : Hid (∀ k, (bs.drop k).length = n - k) := hdl
      obtain ⟨tl, htl⟩ : ∃ tl, tl = bs.drop m := ⟨_, rfl⟩
      have hTL : Hid (tl = bs.drop m) := htl
      have htn : tl.length = n - m := by rw [htl, hdl]
      have htn' : Hid (tl.length = n - m) := htn
      have hrl : Hid (n % 64 = tl.length ∧ tl.length < 64) := show n % 64 = tl.length ∧ tl.length < 64 by omega
      have hS := Bs.src (P := Tryz.prog) Tryz.underlying94 B1
      rw [← htl, htn] at hS
      clear hm ha1 hdl htl htn
      go_wp2_with (at_builtin; refine wpList_append_src rfl (.tmp 26) (.tmp 29) rfl Tryz.underlying94 Tryz.info5 rfl _ [] rfl (Own.nil _ _) _ (n - m) (tl.map bv) rfl ?src ?b ?m ?_)
      case b => omega
      case m => simp only [maxLen]; omega
      intro v1 w1 O1 G1 _
      have Rh1 := Rh.turn G1.turn (fun q => by cases q)
      have Rz1 := Rz.turn G1.turn (fun q => by cases q)
      have T1 : Turn no w w1 := T.fresh G1 (fun g q => by cases q)
      have f1 : ∀ g, v1.ownBlock = some g → w.heap.size + 1 < g := fun g q => by
        have := G1.fresh (B := w.heap.size + 2) (fun g q => by cases q) (by have := Rh.lt; omega) g q
        omega
      clear hS B1 G1 Rh Rz T
      obtain ⟨ad1, cp1, hv1⟩ := (show Own w1 5 v1 (tl.map bv) by simpa using O1).bs.slice
      subst hv1
      go_wp2_with (at_builtin; refine wpList_append_src rfl (.tmp 31) (.tmp 32) rfl Tryz.underlying94 Tryz.info5 rfl _ (tl.map bv) rfl (O1.turn_no ((Turn.refl no w1).alloc _)) _ 1 (List.map bv [128]) rfl ?src2 ?b2 ?m2 ?_)
      case src2 => exact src_byte Tryz.underlying94 w1 _ _ rfl
      case b2 => rw [List.length_map, htn'.out]; omega
      case m2 => rw [List.length_map, htn'.out]; simp only [maxLen]; omega
      intro v2 w2 O2 G2 _
      have O2' : Own w2 5 v2 ((zl tl 0).map bv) := by simpa [zl] using O2
      have Rh2 := (Rh1.alloc _).turn G2.turn (fun q => by have := f1 _ q; omega)
      have Rz2 := (Rz1.alloc _).turn G2.turn (fun q => by have := f1 _ q; omega)
      have T2 : Turn no w w2 := (T1.alloc _).fresh G2 (fun g q => by have := f1 g q; omega)
      have f2 : ∀ g, v2.ownBlock = some g → w.heap.size + 1 < g := fun g q => by
        have := G2.fresh (B := w.heap.size + 2) (fun g q => by have := f1 g q; omega) (by have := Rh1.lt; simp; omega) g q
        omega
      clear O2 G2 O1 Rh1 Rz1 T1 f1
      obtain ⟨a2, c2, hv2⟩ := O2'.bs.slice
      subst hv2
      go_wp2_with fail
      go_loopw [5] (fun v wr => ∃ (j : Nat), j + 1 ≤ fillOf n ∧ Own wr 5 v ((zl tl j).map bv) ∧ (∀ g, v.ownBlock = some g → w.heap.size + 1 < g) ∧ Row wr (w.heap.size + 1) (lit8 (shaP bs k)) 119 ∧ Row wr w.heap.size z 40 ∧ Turn no w wr)
        (fun v _ => match v with | .slice _ l _ => 200 - l | _ => 0)
      case atStart => exact ⟨0, (fill_pos n).1, O2', f2, Rh2, Rz2, T2⟩
      case round =>
        clear O2' f2 Rh2 Rz2 T2
        obtain ⟨j, hj, O, f, Rh, Rz, T⟩ := hrel
        have hfp := fill_pos n
        have hl2 : (zl tl j).length = tl.length + (j + 1) := zl_len tl j
        obtain ⟨a3, c3, hv3⟩ := O.bs.slice
        obtain ⟨L, hL⟩ : ∃ L, L = (zl tl j).length := ⟨_, rfl⟩
        rw [← hL] at hv3
        have hLL : Hid (L = tl.length + (j + 1)) := show L = tl.length + (j + 1) by omega
        have hLs : L ≤ 150 := by have := hrl.out; omega
        have hOl : ((zl tl j).map bv).length = L := by rw [List.length_map, hL]
        subst hv3
        by_cases hlt : j + 1 < fillOf n
        · have hne : (((L : Int) % 64) != 56) = true := by
            have := hrl.out
            have h3 : L % 64 ≠ 56 := by have := hLL.out; unfold fillOf at hlt; omega
            simp
            omega
          clear hL hl2
          go_wp2_with (at_builtin; refine wpList_append_src rfl (.tmp 38) (.tmp 39) rfl Tryz.underlying94 Tryz.info5 rfl _ ((zl tl j).map bv) rfl (O.turn_no ((Turn.refl no wr).alloc _)) _ 1 (List.map bv [0]) rfl ?src3 ?b3 ?m3 ?_)
          case src3 => exact src_byte Tryz.underlying94 wr _ _ rfl
          case b3 => rw [hOl]; omega
          case m3 => rw [hOl]; simp only [maxLen]; omega
          intro v4 w4 O4 G4 _
          have O4' : Own w4 5 v4 ((zl tl (j + 1)).map bv) := by
            rw [zl_succ, List.map_append]
            exact O4
          have f4 : ∀ g, v4.ownBlock = some g → w.heap.size + 1 < g := fun g q => by
            have := G4.fresh (B := w.heap.size + 2) (fun g q => by have := f g q; omega) (by have := Rh.lt; simp; omega) g q
            omega
          have Rh4 := (Rh.alloc _).turn G4.turn (fun q => by have := f _ q; omega)
          have Rz4 := (Rz.alloc _).turn G4.turn (fun q => by have := f _ q; omega)
          have T4 : Turn no w w4 := (T.alloc _).fresh G4 (fun g q => by have := f g q; omega)
          obtain ⟨a4, c4, hv4⟩ := O4'.bs.slice
          have hl4 : (zl tl (j + 1)).length = L + 1 := by rw [zl_len]; have := hLL.out; omega
          rw [hl4] at hv4
          subst hv4
          clear O4 G4 O
          go_wp2_with fail
          go_roundw
          case rel => exact ⟨j + 1, hlt, O4', f4, Rh4, Rz4, T4⟩
          case measure => simp; omega
        · have hjf : j = fillOf n - 1 := by omega
          have hne : (((L : Int) % 64) != 56) = false := by
            have := hrl.out
            have h3 : L % 64 = 56 := by have := hLL.out; rw [hjf] at this; unfold fillOf at this; omega
            simp
            omega
          have hLf : Hid (L = tl.length + fillOf n) := show L = tl.length + fillOf n by have := hLL.out; omega
          have O0 : Own wr 5 (.slice a3 L c3) ((ll tl n 0).map bv) := by
            have e : ll tl n 0 = zl tl j := by simp [ll, hjf]
            rw [e]
            exact O
          have hw8 : IntKind.u64.wrap ((n : Int) * 8) = (n : Int) * 8 := by rw [IntKind.wrap_u64]; omega
          clear O hL hl2 hOl hj hlt hjf
          go_wp2_with fail
          go_loopw [5, 7] (fun v i wr => ∃ (c : Nat), c ≤ 8 ∧ i = .int .i64 (7 - (c : Int)) ∧ Own wr 5 v ((ll tl n c).map bv) ∧ (∀ g, v.ownBlock = some g → w.heap.size + 1 < g) ∧ Row wr (w.heap.size + 1) (lit8 (shaP bs k)) 119 ∧ Row wr w.heap.size z 40 ∧ Turn no w wr)
            (fun _ i _ => (intOf i + 1).toNat)
          case atStart => exact ⟨0, by omega, rfl, O0, f, Rh, Rz, T⟩
          case round =>
            clear O0 f Rh Rz T
            obtain ⟨c, hc, rfl, O, f, Rh, Rz, T⟩ := hrel
            have hl3 := ll_len tl n c
            obtain ⟨a5, c5, hv5⟩ := O.bs.slice
            obtain ⟨L5, hL5⟩ : ∃ L, L = (ll tl n c).length := ⟨_, rfl⟩
            rw [← hL5] at hv5
            have hOl : ((ll tl n c).map bv).length = L5 := by rw [List.length_map, hL5]
            have hLs5 : L5 ≤ 200 := by have := hrl.out; omega
            subst hv5
            by_cases hlt : c < 8
            · have hlt' : (0 : Int) ≤ 7 - (c : Int) := by omega
              have hlt'' : (0 : Int) ≤ 8 * (7 - (c : Int)) := by omega
              have hl5 : (ll tl n (c + 1)).length = L5 + 1 := by rw [ll_len]; omega
              have hlt3 : (c : Int) ≤ 7 := by omega
              clear hL5 hl3
              go_wp2_with (at_builtin; refine wpList_append_src rfl (.tmp 49) (.tmp 56) rfl Tryz.underlying94 Tryz.info5 rfl _ ((ll tl n c).map bv) rfl (O.turn_no ((Turn.refl no wr).alloc _)) _ 1 (List.map bv [byteOf ((n : Int) * 8 / 2 ^ (8 * (7 - c)))]) rfl ?src4 ?b4 ?m4 ?_)
              case src4 => exact src_byte Tryz.underlying94 wr _ _ (byteOf_val _).symm
              case b4 => rw [hOl]; omega
              case m4 => rw [hOl]; simp only [maxLen]; omega
              intro v6 w6 O6 G6 _
              have O6' : Own w6 5 v6 ((ll tl n (c + 1)).map bv) := by
                rw [ll_succ, List.map_append]
                exact O6
              have f6 : ∀ g, v6.ownBlock = some g → w.heap.size + 1 < g := fun g q => by
                have := G6.fresh (B := w.heap.size + 2) (fun g q => by have := f g q; omega) (by have := Rh.lt; simp; omega) g q
                omega
              have Rh6 := (Rh.alloc _).turn G6.turn (fun q => by have := f _ q; omega)
              have Rz6 := (Rz.alloc _).turn G6.turn (fun q => by have := f _ q; omega)
              have T6 : Turn no w w6 := (T.alloc _).fresh G6 (fun g q => by have := f g q; omega)
              obtain ⟨a6, c6, hv6⟩ := O6'.bs.slice
              rw [hl5] at hv6
              subst hv6
              clear O6 G6 O
              go_wp2_with fail
              go_roundw
              case rel => exact ⟨c + 1, by omega, by go_num, O6', f6, Rh6, Rz6, T6⟩
              case measure => simp [intOf]; omega
            · have hc8 : c = 8 := by omega
              subst hc8
              have hlt' : ¬ (0 : Int) ≤ 7 - (8 : Int) := by omega
              have hEp := ll_pad tl n
              rw [hEp] at O hL5 hl3 hOl
              obtain ⟨E, hE⟩ : ∃ E, E = tl ++ padOf n := ⟨_, rfl⟩
              rw [← hE] at O hL5 hl3 hOl
              have hHE : Hid (E = tl ++ padOf n) := hE
              have hLm : Hid (L5 % 64 = 0 ∧ 64 ≤ L5) := show L5 % 64 = 0 ∧ 64 ≤ L5 by
                have := hrl.out
                unfold fillOf at hl3
                omega
              have BE := O.bs
              have hLE : Hid (L5 = E.length) := hL5
              obtain ⟨b6, o6, cp6, hv6, hcp6, _⟩ := BE.at (by have := hLm.out; omega)
              simp only [Value.slice.injEq] at hv6
              obtain ⟨ha5, hle2, hc5⟩ := hv6
              subst ha5 hc5
              have hcp7 : L5 ≤ c5 := by omega
              clear hcp6 hle2
              have hD : Hid (∀ t, (shaP (bs ++ padOf n) (k + (t + 1))) = compress (shaP (bs ++ padOf n) (k + t)) ((E.drop (64 * t)).take 64)) := fun t => by
                rw [show k + (t + 1) = k + t + 1 by omega, shaP, hHE.out, hTL.out]
                congr 2
                have h1 : 64 * k ≤ bs.length := by have := hN.out; have := hM.out; omega
                rw [show 64 * (k + t) = 64 * k + 64 * t by omega, ← List.drop_drop, List.drop_append_of_le_length h1, hM.out]
              have hS0 : shaP (bs ++ padOf n) k = shaP bs k := shaP_app _ _ _ (by have := hN.out; have := hM.out; omega)
              rw [← hS0] at Rh
              have hSF : Hid (shaP (bs ++ padOf n) (k + L5 / 64) = shaOf bs) := by
                have h1 : (bs ++ padOf n).length / 64 = k + L5 / 64 := by
                  have hnn := hN.out
                  have hpl : (padOf n).length = fillOf n + 8 := by simp [padOf]
                  have := hLE.out
                  have := hTL.out
                  have h5 := htn'.out
                  have h6 : E.length = tl.length + (fillOf n + 8) := by rw [hHE.out, List.length_append, hpl]
                  have := hM.out
                  rw [List.length_append, hpl, ← hnn]
                  omega
                show shaP (bs ++ padOf n) (k + L5 / 64) = shaOf bs
                rw [← h1, shaOf, shaW, ← hN.out]
              clear O hL5 hl3 hOl hEp hE hc hlt hS0
              have hb6 : b6 ≠ w.heap.size + 1 := by have := f b6 rfl; omega
              go_wp2_with fail
              go_loopw [8] (fun i wr => ∃ (t m2 : Nat), m2 = 64 * t ∧ m2 ≤ L5 ∧ i = .int .i64 (m2 : Int) ∧ Row wr (w.heap.size + 1) (lit8 (shaP (bs ++ padOf n) (k + t))) 119 ∧ Row wr w.heap.size z 40 ∧ Bs wr (.slice (some ⟨b6, o6, none⟩) L5 c5) E ∧ Turn no w wr) (fun i _ => L5 - (intOf i).toNat)
              case atStart => exact ⟨0, 0, rfl, Nat.zero_le _, rfl, Rh, Rz, BE, T⟩
              case round =>
                clear Rh Rz BE T
                obtain ⟨t, m2, hm2, hk2, rfl, Rh, Rz, BE', T⟩ := hrel
                have hlm := hLm.out
                by_cases hlt2 : m2 < L5
                · have hlt2' : (m2 : Int) < (L5 : Int) := by omega
                  have hge2 : m2 + 64 ≤ L5 := by omega
                  have hb64 : Bs wr (.slice (some ⟨b6, o6 + m2, none⟩) 64 (c5 - m2)) ((E.drop m2).take 64) := by
                    have h1 := (BE'.from m2 (by rw [← hLE.out]; omega) (some ⟨b6, o6 + m2, none⟩) (fun _ => rfl))
                    rw [← hLE.out] at h1
                    exact bs_cut h1 64 (by rw [List.length_drop, ← hLE.out]; omega)
                  have hblk := fun W (u : Turn no wr W) => block_lit W (shaP (bs ++ padOf n) (k + t)) (shaP_len _ _) _ _ (hb64.turn_no u) (by rw [List.length_take, List.length_drop, ← hLE.out]; omega) (hl.turn (T.then_no u) (fun q => q)) (by have := (T.then_no u).size; omega)
                  have hnx : shaP (bs ++ padOf n) (k + (t + 1)) = compress (shaP (bs ++ padOf n) (k + t)) ((E.drop m2).take 64) := by rw [hm2]; exact hD.out t
                  rw [← hnx] at hblk
                  have hM2 : Hid (m2 = 64 * t) := hm2
                  clear hm2 hb64 hnx
                  have hR := Rh
                  have hL8 : Hid (lit8 (shaP (bs ++ padOf n) (k + (t + 1))) = #[.int .u32 ((shaP (bs ++ padOf n) (k + (t + 1))).getD 0 0), .int .u32 ((shaP (bs ++ padOf n) (k + (t + 1))).getD 1 0), .int .u32 ((shaP (bs ++ padOf n) (k + (t + 1))).getD 2 0), .int .u32 ((shaP (bs ++ padOf n) (k + (t + 1))).getD 3 0), .int .u32 ((shaP (bs ++ padOf n) (k + (t + 1))).getD 4 0), .int .u32 ((shaP (bs ++ padOf n) (k + (t + 1))).getD 5 0), .int .u32 ((shaP (bs ++ padOf n) (k + (t + 1))).getD 6 0), .int .u32 ((shaP (bs ++ padOf n) (k + (t + 1))).getD 7 0)]) := rfl
                  unfold lit8 at hR hblk
                  generalize (shaP (bs ++ padOf n) (k + t)).getD 0 0 = x0 at *
                  generalize (shaP (bs ++ padOf n) (k + (t + 1))).getD 0 0 = y0 at *
                  generalize (shaP (bs ++ padOf n) (k + t)).getD 1 0 = x1 at *
                  generalize (shaP (bs ++ padOf n) (k + (t + 1))).getD 1 0 = y1 at *
                  generalize (shaP (bs ++ padOf n) (k + t)).getD 2 0 = x2 at *
                  generalize (shaP (bs ++ padOf n) (k + (t + 1))).getD 2 0 = y2 at *
                  generalize (shaP (bs ++ padOf n) (k + t)).getD 3 0 = x3 at *
                  generalize (shaP (bs ++ padOf n) (k + (t + 1))).getD 3 0 = y3 at *
                  generalize (shaP (bs ++ padOf n) (k + t)).getD 4 0 = x4 at *
                  generalize (shaP (bs ++ padOf n) (k + (t + 1))).getD 4 0 = y4 at *
                  generalize (shaP (bs ++ padOf n) (k + t)).getD 5 0 = x5 at *
                  generalize (shaP (bs ++ padOf n) (k + (t + 1))).getD 5 0 = y5 at *
                  generalize (shaP (bs ++ padOf n) (k + t)).getD 6 0 = x6 at *
                  generalize (shaP (bs ++ padOf n) (k + (t + 1))).getD 6 0 = y6 at *
                  generalize (shaP (bs ++ padOf n) (k + t)).getD 7 0 = x7 at *
                  generalize (shaP (bs ++ padOf n) (k + (t + 1))).getD 7 0 = y7 at *
                  have cc0 := hR.cell 0 _ rfl
                  have cc1 := hR.cell 1 _ rfl
                  have cc2 := hR.cell 2 _ rfl
                  have cc3 := hR.cell 3 _ rfl
                  have cc4 := hR.cell 4 _ rfl
                  have cc5 := hR.cell 5 _ rfl
                  have cc6 := hR.cell 6 _ rfl
                  have cc7 := hR.cell 7 _ rfl
                  have hc1 : ¬ c5 = m2 := by omega
                  have hc2 : (m2 : Int) + 64 ≤ (c5 : Int) := by omega
                  have hc3 : m2 + 64 - m2 = 64 := by omega
                  have hc5' : (m2 : Int) ≤ (m2 : Int) + 64 := by omega
                  have hc6 : ((m2 : Int) + 64).toNat = m2 + 64 := by omega
                  have hw64 : IntKind.i64.wrap ((m2 : Int) + 64) = (m2 : Int) + 64 := by rw [IntKind.wrap_i64]; omega
                  have hw65 : (m2 : Int) + 64 ≤ 9223372036854775807 := by omega
                  have hD' : Turn no wr wr.drew := (Turn.refl no wr).drew
                  go_wp2_with fail
                  go_region_with (go_at_call 72; refine (hblk _ hD').mono ?_; rintro e w5 ⟨rfl, t5⟩; have R5 := (hR.drew).turn t5 (fun q => q); have d0 := R5.cell 0 _ rfl; have d1 := R5.cell 1 _ rfl; have d2 := R5.cell 2 _ rfl; have d3 := R5.cell 3 _ rfl; have d4 := R5.cell 4 _ rfl; have d5 := R5.cell 5 _ rfl; have d6 := R5.cell 6 _ rfl; have d7 := R5.cell 7 _ rfl; have fz := fun j => R5.frozen j)
                  all_goals
                    go_wp2_with fail
                    go_roundw
                    case rel =>
                      refine ⟨t + 1, m2 + 64, by rw [hM2.out]; omega, hge2, by go_num, ?_, ((((((((((Rz.drew).turn t5 (fun q => q)).other (by show w.heap.size + 1 ≠ w.heap.size; omega) _).other (by show w.heap.size + 1 ≠ w.heap.size; omega) _).other (by show w.heap.size + 1 ≠ w.heap.size; omega) _).other (by show w.heap.size + 1 ≠ w.heap.size; omega) _).other (by show w.heap.size + 1 ≠ w.heap.size; omega) _).other (by show w.heap.size + 1 ≠ w.heap.size; omega) _).other (by show w.heap.size + 1 ≠ w.heap.size; omega) _).other (by show w.heap.size + 1 ≠ w.heap.size; omega) _), ((((((((((BE'.turn_no hD').turn_no t5).turn (Turn.setCell (S := fun k => k = w.heap.size + 1) (p := ⟨w.heap.size + 1, 0, none⟩) (Turn.refl _ _) (fun _ => rfl) _) (fun g q r => hb6 (by cases q; exact r))).turn (Turn.setCell (S := fun k => k = w.heap.size + 1) (p := ⟨w.heap.size + 1, 1, none⟩) (Turn.refl _ _) (fun _ => rfl) _) (fun g q r => hb6 (by cases q; exact r))).turn (Turn.setCell (S := fun k => k = w.heap.size + 1) (p := ⟨w.heap.size + 1, 2, none⟩) (Turn.refl _ _) (fun _ => rfl) _) (fun g q r => hb6 (by cases q; exact r))).turn (Turn.setCell (S := fun k => k = w.heap.size + 1) (p := ⟨w.heap.size + 1, 3, none⟩) (Turn.refl _ _) (fun _ => rfl) _) (fun g q r => hb6 (by cases q; exact r))).turn (Turn.setCell (S := fun k => k = w.heap.size + 1) (p := ⟨w.heap.size + 1, 4, none⟩) (Turn.refl _ _) (fun _ => rfl) _) (fun g q r => hb6 (by cases q; exact r))).turn (Turn.setCell (S := fun k => k = w.heap.size + 1) (p := ⟨w.heap.size + 1, 5, none⟩) (Turn.refl _ _) (fun _ => rfl) _) (fun g q r => hb6 (by cases q; exact r))).turn (Turn.setCell (S := fun k => k = w.heap.size + 1) (p := ⟨w.heap.size + 1, 6, none⟩) (Turn.refl _ _) (fun _ => rfl) _) (fun g q r => hb6 (by cases q; exact r))).turn (Turn.setCell (S := fun k => k = w.heap.size + 1) (p := ⟨w.heap.size + 1, 7, none⟩) (Turn.refl _ _) (fun _ => rfl) _) (fun g q r => hb6 (by cases q; exact r))), ((((((((((T.drew).then_no t5).setCell (fun r => by have r' : w.heap.size + 1 < w.heap.size := r; omega) _).setCell (fun r => by have r' : w.heap.size + 1 < w.heap.size := r; omega) _).setCell (fun r => by have r' : w.heap.size + 1 < w.heap.size := r; omega) _).setCell (fun r => by have r' : w.heap.size + 1 < w.heap.size := r; omega) _).setCell (fun r => by have r' : w.heap.size + 1 < w.heap.size := r; omega) _).setCell (fun r => by have r' : w.heap.size + 1 < w.heap.size := r; omega) _).setCell (fun r => by have r' : w.heap.size + 1 < w.heap.size := r; omega) _).setCell (fun r => by have r' : w.heap.size + 1 < w.heap.size := r; omega) _)⟩
                      rw [hL8.out]
                      exact Row.up8 R5 _ _ _ _ _ _ _ _
                    case measure => simp [intOf]; omega
                · have hlt2' : ¬ (m2 : Int) < (L5 : Int) := by omega
                  have htL : k + t = k + L5 / 64 := by omega
                  rw [htL, hSF.out] at Rh
                  have hwl : (shaOf bs).length = 8 := shaP_len _ _
                  generalize hwsE : shaOf bs = ws at *
                  have HE : Hid (shaOf bs = ws) := hwsE
                  have hcl : ∀ j, j < 8 → (lit8 ws)[j]? = some (.int .u32 (ws.getD j 0)) := fun j hj => by
                    have : j = 0 ∨ j = 1 ∨ j = 2 ∨ j = 3 ∨ j = 4 ∨ j = 5 ∨ j = 6 ∨ j = 7 := by omega
                    rcases this with rfl | rfl | rfl | rfl | rfl | rfl | rfl | rfl <;> rfl
                  generalize lit8 ws = lw at *
                  have hq1 := Rh.lt
                  clear hm2 hwsE htL BE'
                  obtain ⟨q9, hq9⟩ : ∃ q, q = wr.heap.size := ⟨_, rfl⟩
                  have hQ9 : Hid (q9 = wr.heap.size) := hq9
                  have hq2 : w.heap.size + 1 < q9 := by omega
                  clear hq9 hq1
                  go_wp2_with fail
                  rw [← hQ9.out]
                  go_loopw [10] (fun c wx => ∃ (k : Nat) (ou : Array Value), k ≤ 32 ∧ c = .int .i64 k ∧ Row wx q9 ou 40 ∧ ou.size = 32 ∧ (∀ j, j < k → ou[j]? = some (bv (hashAt ws j))) ∧ Row wx (w.heap.size + 1) lw 119 ∧ Row wx w.heap.size z 40 ∧ Turn no w wx) (fun c _ => 32 - (intOf c).toNat)
                  case atStart => exact ⟨0, _, Nat.zero_le _, rfl, Row.newAt' _ _ _ _ hQ9.out, rfl, fun j q => by omega, Rh.alloc _, Rz.alloc _, T.alloc _⟩
                  case round =>
                    clear Rh Rz T
                    obtain ⟨k5, ou, hk5, rfl, Ro, hos, hou, Rm, Rz, T⟩ := hrel
                    by_cases hlt5 : k5 < 32
                    · have hlt5' : (k5 : Int) < 32 := by omega
                      have cw := Rm.cell (k5 / 4) _ (hcl (k5 / 4) (by omega))
                      have co := Ro.cell k5 (ou[k5]'(by omega)) (by simp [hos, hlt5])
                      have fo := Ro.frozen k5
                      have hq8 : (k5 : Int) / 4 < 8 := by omega
                      have hr3 : (0 : Int) ≤ 24 - 8 * ((k5 : Int) % 4) := by omega
                      have hha : bv (hashAt ws k5) = .int .u8 (ws.getD (k5 / 4) 0 / 2 ^ (8 * (3 - k5 % 4)) % 256) := bv_byteOf _
                      generalize ws.getD (k5 / 4) 0 = x at *
                      have hsh : 24 - 8 * (k5 % 4) = 8 * (3 - k5 % 4) := by omega
                      go_wp2_with fail
                      go_roundw
                      case rel =>
                        refine ⟨k5 + 1, _, by omega, by go_num, Ro.set k5 _, by simpa using hos, fun j hj => ?_, Rm.other (by show q9 ≠ w.heap.size + 1; omega) _, Rz.other (by show q9 ≠ w.heap.size; omega) _, T.setCell (fun r => by have r' : q9 < w.heap.size := r; omega) _⟩
                        by_cases hjk : j = k5
                        · subst hjk
                          rw [Array.getElem?_setIfInBounds_self_of_lt (by omega), hha]
                        · rw [Array.getElem?_setIfInBounds_ne (by omega)]
                          exact hou j (by omega)
                      case measure => simp [intOf]; omega
                    · have hlt5' : ¬ (k5 : Int) < 32 := by omega
                      have hk32 : k5 = 32 := by omega
                      subst hk32
                      have hwhole : ou = (((List.range 32).map (hashAt ws)).map bv).toArray := by
                        apply Array.ext
                        · simp [hos]
                        · intro i h1 h2
                          have := hou i (by omega)
                          rw [Array.getElem?_eq_getElem h1] at this
                          simp at this
                          simp [this]
                      have HW : Hid (ou = (((List.range 32).map (hashAt ws)).map bv).toArray) := hwhole
                      have h1 : ou.all (·.oneCell') = true := by rw [hwhole]; simp [bv, Value.oneCell']
                      have hi : (Tryz.prog.info? 40).map (·.size) = some ou.size := by rw [hos]; exact size35
                      clear hwhole hou hcl
                      go_wp2_with (first
                        | (refine wpList_load_row rfl 40 (.tmp 9) rfl q9 rfl 40 ou (0, 0) _ Ro Tryz.underlying40 rfl hi ?_)
                        | (refine wpList_store_row rfl 40 (.tmp 2) (.tmp 88) rfl w.heap.size ou rfl rfl 40 z Rz hi (by omega) h1 ?_))
                      refine bodyPost_ret (v := .agg ou) ?_ rfl ⟨by rw [HW.out, hashOf, HE.out], T.setRow _ _ (fun q => by omega)⟩
                      exact results_cell_row (P := Tryz.prog) Tryz.results47 _ _ w.heap.size 40 ou (0, 0) _ rfl (setRow_heap _ _ _ _ _ _ Rz) Tryz.underlying40 rfl hi
end Go.Proofs.YtaoigopjfelgpaaGreatDoor



/- Inner: two digests beside one another. -/
namespace Go.Proofs.YtaoigopjfelgpaaGreatDoor
open Go.RowKit
set_option linter.unusedVariables false

theorem row_bs {w : World} {g : Nat} {X : List UInt8} {e : TypeId} (h : Row w g (X.map bv).toArray e) (hm : X.length ≤ maxLen) : Bs w (.slice (some ⟨g, 0, none⟩) X.length X.length) X := by
  refine Or.inr ⟨⟨g, 0, none⟩, X.length, rfl, Nat.le_refl _, hm, fun j u hu => ?_⟩
  rw [Addr.add_lit, Nat.zero_add]
  exact h.cell j _ (by simp [hu])

set_option maxRecDepth 100000 in
set_option maxHeartbeats 4000000 in
theorem inner13 (w : World) (X Y : List UInt8) (hx : X.length = 32) (hy : Y.length = 32) (hl : Laid1 w) (h2 : 2 ≤ w.heap.size) :
    Calls Tryz.prog 113 #[.agg (X.map bv).toArray, .agg (Y.map bv).toArray] w fun e w' => e = .returned (.agg (hv (1 :: (X ++ Y)))) ∧ Turn no w w' := by
  have hcall := sumOf_list w [(.slice (some ⟨w.heap.size + 1 + 1 + 1, 0, none⟩) 1 1, [1]), (.slice (some ⟨w.heap.size, 0, none⟩) 32 32, X), (.slice (some ⟨w.heap.size + 1, 0, none⟩) 32 32, Y)] (by simp) (by simp) hl h2 (by simp [joined, hx, hy])
  have hj : joined [(Value.slice (some ⟨w.heap.size + 1 + 1 + 1, 0, none⟩) 1 1, [1]), (.slice (some ⟨w.heap.size, 0, none⟩) 32 32, X), (.slice (some ⟨w.heap.size + 1, 0, none⟩) 32 32, Y)] = 1 :: (X ++ Y) := by simp [joined]
  rw [hj] at hcall
  have h1 := hv_one (1 :: (X ++ Y))
  have hs := hv_size (1 :: (X ++ Y))
  have hi := hv_info (1 :: (X ++ Y))
  generalize hv (1 :: (X ++ Y)) = H at *
  have hAs : (X.map bv).toArray.size = 32 := by simpa using hx
  have hBs : (Y.map bv).toArray.size = 32 := by simpa using hy
  have hbA : ∀ W g e, Row W g (X.map bv).toArray e → Bs W (.slice (some ⟨g, 0, none⟩) 32 32) X := fun W g e h => by have := row_bs h (by rw [hx]; simp [maxLen]); rwa [hx] at this
  have hbB : ∀ W g e, Row W g (Y.map bv).toArray e → Bs W (.slice (some ⟨g, 0, none⟩) 32 32) Y := fun W g e h => by have := row_bs h (by rw [hy]; simp [maxLen]); rwa [hy] at this
  generalize (X.map bv).toArray = A at *
  generalize (Y.map bv).toArray = B at *
  clear hj
  go_enter Tryz.func113, Tryz.ntmps113
  go_wp2_with fail
  obtain ⟨z, RZ, hz⟩ : ∃ z, Row (((w.alloc (.cells A 40)).alloc (.cells B 40)).alloc (.cells z 40)) (w.heap.size + 1 + 1) z 40 ∧ z.size = 32 ∧ z = #[.int .u8 0, .int .u8 0, .int .u8 0, .int .u8 0, .int .u8 0, .int .u8 0, .int .u8 0, .int .u8 0, .int .u8 0, .int .u8 0, .int .u8 0, .int .u8 0, .int .u8 0, .int .u8 0, .int .u8 0, .int .u8 0, .int .u8 0, .int .u8 0, .int .u8 0, .int .u8 0, .int .u8 0, .int .u8 0, .int .u8 0, .int .u8 0, .int .u8 0, .int .u8 0, .int .u8 0, .int .u8 0, .int .u8 0, .int .u8 0, .int .u8 0, .int .u8 0] := ⟨_, Row.newAt _ _ _ _ (by simp), rfl, rfl⟩
  rw [← hz.2]
  have hzs := hz.1
  clear hz
  have RA := ((Row.new w A 40).alloc (.cells B 40)).alloc (.cells z 40)
  have RB := (Row.newAt (w.alloc (.cells A 40)) B 40 (w.heap.size + 1) (by simp)).alloc (.cells z 40)
  have T0 : Turn no w (((w.alloc (.cells A 40)).alloc (.cells B 40)).alloc (.cells z 40)) := (((Turn.refl no w).alloc _).alloc _).alloc _
  have hq : (((w.alloc (.cells A 40)).alloc (.cells B 40)).alloc (.cells z 40)).heap.size = w.heap.size + 1 + 1 + 1 := by simp
  generalize ((w.alloc (.cells A 40)).alloc (.cells B 40)).alloc (.cells z 40) = w0 at *
  have hsA : ∀ W a, (Instr.sliceAt 40 (.pointer (some a)) none none none).run Tryz.prog W = .ok (.slice (some a) 32 32) W := fun W a => by
    rw [run_sliceAt_array_all (P := Tryz.prog) W 40 a (by kernel_rfl)]
    rw [show (sizeOf (Tryz.prog.elem 40)).run Tryz.prog W = .ok 1 W by kernel_rfl, show Tryz.prog.arrayLen 40 = 32 by kernel_rfl]
    simp [slicedAt, Addr.add_zero']
  refine wp_region_held_drew (S := fun w' => Row w' w.heap.size A 40 ∧ Row w' (w.heap.size + 1) B 40 ∧ (∃ z, Row w' (w.heap.size + 1 + 1) z 40 ∧ z.size = 32) ∧ Turn no w w') (by kernel_rfl) ⟨RA, RB, ⟨z, RZ, hzs⟩, T0.drew⟩ (fun hHeld => ?_)
  refine' wpAnyH_take (i := 1) (v := .slice (some ⟨w.heap.size, 0, none⟩) 32 32) rfl (by kernel_rfl) (by kernel_rfl) (by kernel_rfl) (fun _ _ _ h => h) (Or.inl ⟨by rfl, fun W hW => ?y1⟩) hHeld ?r1
  · go_simp
  refine' wpAnyH_take (i := 2) (v := .slice (some ⟨w.heap.size + 1, 0, none⟩) 32 32) rfl (by kernel_rfl) (by kernel_rfl) (by kernel_rfl) (fun _ _ _ h => h) (Or.inl ⟨by rfl, fun W hW => ?y2⟩) hHeld ?r2
  · go_simp
  refine wpAnyH_ready (rs := [0]) (by kernel_rfl) (by simp) ?_
  refine AllReadyH.cons rfl (fun K hK => ?_) AllReadyH.nil
  go_simp
  refine hK.out _ _ ⟨RA.alloc _, RB.alloc _, ⟨z, RZ.alloc _, hzs⟩, (T0.alloc _).drew⟩ (fun hHeld => ?_)
  clear hK
  have R1 : Row (w0.alloc (.cells #[.int .u8 1] 5)).drew (w.heap.size + 1 + 1 + 1) #[.int .u8 1] 5 := Row.newAt _ _ _ _ hq.symm
  have RA1 : Row (w0.alloc (.cells #[.int .u8 1] 5)).drew w.heap.size A 40 := RA.alloc _
  have RB1 : Row (w0.alloc (.cells #[.int .u8 1] 5)).drew (w.heap.size + 1) B 40 := RB.alloc _
  have RZ1 : Row (w0.alloc (.cells #[.int .u8 1] 5)).drew (w.heap.size + 1 + 1) z 40 := RZ.alloc _
  have T1 : Turn no w (w0.alloc (.cells #[.int .u8 1] 5)).drew := (T0.alloc _).drew
  generalize (w0.alloc (.cells #[.int .u8 1] 5)).drew = w1 at *
  clear RA RB RZ T0 hq
  refine wpAnyH_ready (rs := [3]) (by kernel_rfl) (by simp) ?_
  refine AllReadyH.cons rfl (fun K hK => ?_) AllReadyH.nil
  go_simp
  refine hK.out _ _ ⟨RA1.alloc _, RB1.alloc _, ⟨z, RZ1.alloc _, hzs⟩, T1.alloc _⟩ (fun hHeld => ?_)
  clear hK
  refine wpAnyH_ready (rs := [4]) (by kernel_rfl) (by simp) ?_
  refine AllReadyH.cons rfl (fun K hK => ?_) AllReadyH.nil
  go_simp
  have B1 : Bs w1 (.slice (some ⟨w.heap.size + 1 + 1 + 1, 0, none⟩) 1 1) [1] := row_bs (X := [1]) R1 (by simp [maxLen])
  have BA := hbA _ _ _ RA1
  have BB := hbB _ _ _ RB1
  refine (hcall _ (T1.alloc _) w1.heap.size 94 (Row.new w1 _ 94) (fun x hx => by
    simp at hx
    rcases hx with rfl | rfl | rfl
    · exact B1.turn_no ((Turn.refl no w1).alloc _)
    · exact BA.turn_no ((Turn.refl no w1).alloc _)
    · exact BB.turn_no ((Turn.refl no w1).alloc _))).mono ?_
  rintro e w5 ⟨rfl, t5⟩
  have RA5 := (RA1.alloc _).turn t5 (fun q => q)
  have RB5 := (RB1.alloc _).turn t5 (fun q => q)
  have RZ5 := (RZ1.alloc _).turn t5 (fun q => q)
  have T5 : Turn no w w5 := (T1.alloc _).then_no t5
  clear hcall B1 BA BB t5 hbA hbB
  go_wp2_with fail
  refine hK.out _ _ ⟨RA5, RB5, ⟨z, RZ5, hzs⟩, T5⟩ (fun hHeld => ?_)
  clear hK
  refine wpAnyH_ready (rs := [5]) (by kernel_rfl) (by simp) ?_
  refine AllReadyH.cons rfl (fun K hK => ?_) AllReadyH.nil
  rw [if_pos (by rfl)]
  refine wp_store_row 40 _ _ rfl (w.heap.size + 1 + 1) H rfl rfl 40 z RZ5 hi (by omega) h1 ?_
  have hz' : (w5.setRow (w.heap.size + 1 + 1) H).heap[w.heap.size + 1 + 1]? = some (.cells H 40 (0, 0)) := setRow_heap _ _ _ _ _ _ RZ5
  have T6 : Turn no w (w5.setRow (w.heap.size + 1 + 1) H) := T5.setRow _ _ (fun q => by omega)
  refine hK.out _ _ ⟨by unfold Row; rw [setRow_other _ _ _ _ (by omega)]; exact RA5, by unfold Row; rw [setRow_other _ _ _ _ (by omega)]; exact RB5, ⟨H, hz', hs⟩, T6⟩ (fun hHeld => ?_)
  clear hK
  refine wpAnyH_done (by kernel_rfl) ?_ _
  go_wp2_with fail
  refine bodyPost_ret (v := .agg H) ?_ rfl ⟨rfl, T6⟩
  exact results_cell_row (P := Tryz.prog) Tryz.results113 _ _ (w.heap.size + 1 + 1) 40 H (0, 0) _ rfl hz' Tryz.underlying40 rfl hi
end Go.Proofs.YtaoigopjfelgpaaGreatDoor



/- The reference's Inner. -/
namespace Go.Proofs.YtaoigopjfelgpaaGreatDoor
open Go.RowKit
set_option linter.unusedVariables false

theorem own_one (w : World) (b : UInt8) : Own (w.alloc (.cells #[bv b] 5)) 5 (.slice (some ⟨w.heap.size, 0, none⟩) 1 1) (List.map bv [b]) :=
  Own.of (heap_alloc_new w _) (by simp) (by simp [maxLen]) rfl (by simp)

set_option maxRecDepth 100000 in
set_option maxHeartbeats 4000000 in
theorem innerText_any (w : World) (X Y : List UInt8) (hx : X.length = 32) (hy : Y.length = 32) :
    Calls Tryz.prog 119 #[.agg (X.map bv).toArray, .agg (Y.map bv).toArray] w fun e w' => ∃ v, e = .returned v ∧ Own w' 5 v ((1 :: (X ++ Y)).map bv) ∧ Turn no w w' := by
  have hAs : (X.map bv).toArray.size = 32 := by simpa using hx
  have hBs : (Y.map bv).toArray.size = 32 := by simpa using hy
  have hbA : ∀ W g e, Row W g (X.map bv).toArray e → Src Tryz.prog 1 94 (.slice (some ⟨g, 0, none⟩) 32 32) 32 (X.map bv) W := fun W g e h => by
    have := Bs.src (P := Tryz.prog) Tryz.underlying94 (row_bs h (by rw [hx]; simp [maxLen]))
    rwa [hx] at this
  have hbB : ∀ W g e, Row W g (Y.map bv).toArray e → Src Tryz.prog 1 94 (.slice (some ⟨g, 0, none⟩) 32 32) 32 (Y.map bv) W := fun W g e h => by
    have := Bs.src (P := Tryz.prog) Tryz.underlying94 (row_bs h (by rw [hy]; simp [maxLen]))
    rwa [hy] at this
  have hXl : (X.map bv).length = 32 := by simpa using hx
  have hYl : (Y.map bv).length = 32 := by simpa using hy
  have hsA : ∀ W a, (Instr.sliceAt 40 (.pointer (some a)) none none none).run Tryz.prog W = .ok (.slice (some a) 32 32) W := fun W a => by
    rw [run_sliceAt_array_all (P := Tryz.prog) W 40 a (by kernel_rfl)]
    rw [show (sizeOf (Tryz.prog.elem 40)).run Tryz.prog W = .ok 1 W by kernel_rfl, show Tryz.prog.arrayLen 40 = 32 by kernel_rfl]
    simp [slicedAt, Addr.add_zero']
  have hjoin : (1 :: (X ++ Y)).map bv = List.map bv [1] ++ X.map bv ++ Y.map bv := by simp
  rw [hjoin]
  generalize (X.map bv).toArray = A at *
  generalize (Y.map bv).toArray = B at *
  generalize X.map bv = XL at *
  generalize Y.map bv = YL at *
  clear hjoin
  go_enter Tryz.func119, Tryz.ntmps119
  have RA := (Row.new w A 40).alloc (.cells B 40)
  have RB := Row.newAt (w.alloc (.cells A 40)) B 40 (w.heap.size + 1) (by simp)
  have T0 : Turn no w ((w.alloc (.cells A 40)).alloc (.cells B 40)) := ((Turn.refl no w).alloc _).alloc _
  have O1 := own_one ((w.alloc (.cells A 40)).alloc (.cells B 40)) 1
  have hq : ((w.alloc (.cells A 40)).alloc (.cells B 40)).heap.size = w.heap.size + 1 + 1 := by simp
  rw [hq] at O1
  have S1 := hbA _ _ _ (RA.alloc (.cells #[bv 1] 5))
  go_wp2_with (at_builtin; refine wpList_append_src rfl (.tmp 7) (.tmp 8) rfl Tryz.underlying94 Tryz.info5 rfl _ (List.map bv [1]) rfl O1 _ 32 XL rfl S1 ?b1 ?m1 ?_)
  case b1 => simp
  case m1 => simp [maxLen]
  intro v2 w2 O2 G2 _
  have RB2 := (RB.alloc (.cells #[bv 1] 5)).turn G2.turn (fun q => by simp [Value.ownBlock] at q)
  have T2 : Turn no w w2 := (T0.alloc (.cells #[bv 1] 5)).fresh G2 (fun g q => by simp [Value.ownBlock] at q; omega)
  have f2 : ∀ g, v2.ownBlock = some g → w.heap.size ≤ g := G2.fresh (fun g q => by simp [Value.ownBlock] at q; omega) (by simp; omega)
  have S2 := hbB _ _ _ RB2
  obtain ⟨ad, ln, cp, rfl⟩ := O2.form
  clear RA RB T0 O1 S1 G2 hq
  go_wp2_with (at_builtin; refine wpList_append_src rfl (.tmp 10) (.tmp 11) rfl Tryz.underlying94 Tryz.info5 rfl _ (bv 1 :: XL) rfl O2 _ 32 YL rfl S2 ?b2 ?m2 ?_)
  case b2 => simp; omega
  case m2 => simp [maxLen]; omega
  intro v3 w3 O3 G3 _
  have T3 : Turn no w w3 := T2.fresh G3 f2
  have O3' : Own w3 5 v3 (List.map bv [1] ++ XL ++ YL) := by simpa using O3
  obtain ⟨ad3, ln3, cp3, rfl⟩ := O3.form
  go_wp2_with fail
  go_ret
  exact ⟨_, rfl, O3', T3⟩

set_option maxRecDepth 100000 in
set_option maxHeartbeats 4000000 in
theorem inner14 (w : World) (X Y : List UInt8) (hx : X.length = 32) (hy : Y.length = 32) (hl : Laid0 w) (h2 : 2 ≤ w.heap.size) :
    Calls Tryz.prog 115 #[.agg (X.map bv).toArray, .agg (Y.map bv).toArray] w fun e w' => e = .returned (.agg (hv (1 :: (X ++ Y)))) ∧ Turn no w w' := by
  have hAs : (X.map bv).toArray.size = 32 := by simpa using hx
  have hBs : (Y.map bv).toArray.size = 32 := by simpa using hy
  have hiA : (Tryz.prog.info? 40).map (·.size) = some (X.map bv).toArray.size := by rw [hAs]; exact size35
  have hiB : (Tryz.prog.info? 40).map (·.size) = some (Y.map bv).toArray.size := by rw [hBs]; exact size35
  have htext := fun W => innerText_any W X Y hx hy
  have hsum := fun W (T : Turn no w W) v (O : Own W 5 v ((1 :: (X ++ Y)).map bv)) => rsum_any W v (1 :: (X ++ Y)) O.bs (hl.turn T (fun q => q)) (by have := T.size; omega) (by simp; omega) (by simp)
  have hh : ((hashOf (1 :: (X ++ Y))).map bv).toArray = hv (1 :: (X ++ Y)) := rfl
  simp only [hh] at hsum
  have h1 := hv_one (1 :: (X ++ Y))
  have hs := hv_size (1 :: (X ++ Y))
  have hi := hv_info (1 :: (X ++ Y))
  clear hh
  generalize hv (1 :: (X ++ Y)) = H at *
  generalize (1 :: (X ++ Y)).map bv = TX at *
  generalize (X.map bv).toArray = A at *
  generalize (Y.map bv).toArray = B at *
  go_enter Tryz.func115, Tryz.ntmps115
  obtain ⟨z, hz, hzs⟩ : ∃ z : Array Value, z = #[.int .u8 0, .int .u8 0, .int .u8 0, .int .u8 0, .int .u8 0, .int .u8 0, .int .u8 0, .int .u8 0, .int .u8 0, .int .u8 0, .int .u8 0, .int .u8 0, .int .u8 0, .int .u8 0, .int .u8 0, .int .u8 0, .int .u8 0, .int .u8 0, .int .u8 0, .int .u8 0, .int .u8 0, .int .u8 0, .int .u8 0, .int .u8 0, .int .u8 0, .int .u8 0, .int .u8 0, .int .u8 0, .int .u8 0, .int .u8 0, .int .u8 0, .int .u8 0] ∧ z.size = 32 := ⟨_, rfl, rfl⟩
  have RA := ((Row.new w A 40).alloc (.cells B 40)).alloc (.cells z 40)
  have RB := (Row.newAt (w.alloc (.cells A 40)) B 40 (w.heap.size + 1) (by simp)).alloc (.cells z 40)
  have RZ := Row.newAt ((w.alloc (.cells A 40)).alloc (.cells B 40)) z 40 (w.heap.size + 1 + 1) (by simp)
  have T0 : Turn no w (((w.alloc (.cells A 40)).alloc (.cells B 40)).alloc (.cells z 40)) := (((Turn.refl no w).alloc _).alloc _).alloc _
  rw [hz] at RA RB RZ T0
  go_wp2_with (first
    | (refine wpList_load_row rfl 40 (.tmp 2) rfl w.heap.size rfl 40 A (0, 0) _ RA Tryz.underlying40 rfl hiA ?_)
    | (refine wpList_load_row rfl 40 (.tmp 3) rfl (w.heap.size + 1) rfl 40 B (0, 0) _ RB Tryz.underlying40 rfl hiB ?_))
  rw [← hz] at RZ T0 ⊢
  refine (htext _).mono ?_
  rintro e w3 ⟨v3, rfl, O3, t3⟩
  have RZ3 := RZ.turn t3 (fun q => q)
  have T3 := T0.then_no t3
  have hc := hsum _ T3 _ O3
  obtain ⟨ad3, ln3, cp3, rfl⟩ := O3.form
  clear RA RB RZ T0 hsum htext hz
  go_wp2_with fail
  refine hc.mono ?_
  rintro e w5 ⟨rfl, t5⟩
  have RZ5 := RZ3.turn t5 (fun q => q)
  have T5 := T3.then_no t5
  go_wp2_with (refine wpList_store_row rfl 40 (.tmp 4) (.tmp 8) rfl (w.heap.size + 1 + 1) H rfl rfl 40 z RZ5 hi (by omega) h1 ?_)
  refine bodyPost_ret (v := .agg H) ?_ rfl ⟨rfl, T5.setRow _ _ (fun q => by omega)⟩
  exact results_cell_row (P := Tryz.prog) Tryz.results115 _ _ (w.heap.size + 1 + 1) 40 H (0, 0) _ rfl (setRow_heap _ _ _ _ _ _ RZ5) Tryz.underlying40 rfl hi
end Go.Proofs.YtaoigopjfelgpaaGreatDoor



/- The reference's Sum of no bytes. -/
namespace Go.Proofs.YtaoigopjfelgpaaGreatDoor
open Go.RowKit
set_option linter.unusedVariables false

set_option maxRecDepth 100000 in
set_option maxHeartbeats 4000000 in
theorem rsum_none (w : World) (av : Option Addr) (cap : Nat) (hb : Bs w (.slice av 0 cap) []) (hl : Laid0 w) (h2 : 2 ≤ w.heap.size) :
    Calls Tryz.prog 47 #[.slice av 0 cap] w fun e w' => e = .returned (.agg ((hashOf []).map bv).toArray) ∧ Turn no w w' := by
  obtain ⟨bs, hbs⟩ : ∃ bs : List UInt8, bs = [] := ⟨_, rfl⟩
  rw [← hbs] at hb ⊢
  obtain ⟨n, hn0⟩ : ∃ n : Nat, n = 0 := ⟨_, rfl⟩
  have hn : n = bs.length := by rw [hbs, hn0]; rfl
  have hz0 : (0 : Nat) = n := hn0.symm
  have hN : Hid (n = bs.length) := hn
  have hsz : n ≤ 140737488355328 := by omega
  have hdl : ∀ k, (bs.drop k).length = n - k := fun k => by rw [hn, List.length_drop]
  have hn00 : Hid (n = 0) := hn0
  have hbd : Hid (bs = []) := hbs
  rw [hz0] at hb ⊢
  clear hn hn0 hz0 hbs
  go_enter Tryz.func47, Tryz.ntmps47
  go_wp2_with fail
  go_loopw [4] (fun c wr => ∃ (k m : Nat), m = 64 * k ∧ m ≤ n ∧ c = .int .i64 (m : Int) ∧ Row wr (w.heap.size + 1) (lit8 (shaP bs k)) 119 ∧ (∃ z, Row wr w.heap.size z 40 ∧ z.size = 32) ∧ Turn no w wr) (fun c _ => n - (intOf c).toNat)
  case atStart =>
    refine ⟨0, 0, rfl, Nat.zero_le _, rfl, ?_, ⟨_, Row.alloc (Row.new w _ 40) _, rfl⟩, ((Turn.refl no w).alloc _).alloc _⟩
    exact Row.newAt' _ _ _ _ (by simp)
  case round =>
    obtain ⟨k, m, hm, hk, rfl, Rh, ⟨z, Rz, hz⟩, T⟩ := hrel
    by_cases hge : m + 64 ≤ n
    · exact absurd hge (by have := hn00.out; omega)
    · have hge' : ¬ (m : Int) + 64 ≤ (n : Int) := by omega
      have hM : Hid (m = 64 * k) := hm
      have hkn : Hid (k = n / 64) := show k = n / 64 by omega
      have hmm : Hid (n % 64 = n - m) := show n % 64 = n - m by omega
      have hm0 : m = 0 := by have := hn00.out; omega
      obtain ⟨a1, ha1⟩ : ∃ a1 : Option Addr, a1 = if cap = m then av else av.map (·.add (m * 1)) := ⟨_, rfl⟩
      have hsl2 : ∀ W, (Instr.slice 94 (.slice av n cap) (some (.int .i64 (m : Int))) none none).run Tryz.prog W = .ok (.slice a1 (n - m) (cap - m)) W := fun W => by
        rw [run_slice_l (P := Tryz.prog) W 94 av n cap (by kernel_rfl) .i64 (m : Int) (by omega) (by omega)]
        rw [show (sizeOf (Tryz.prog.elem 94)).run Tryz.prog W = .ok 1 W by kernel_rfl, ha1]
        simp [sliced]
      have B1 : Bs wr (.slice a1 (n - m) (cap - m)) (bs.drop m) := by
        have e1 : a1 = av := by
          rw [ha1, hm0]
          split
          · rfl
          · cases av <;> simp [Addr.add_zero']
        have hx := hb.turn_no T
        rw [e1, hm0, Nat.sub_zero, Nat.sub_zero, hbd.out, List.drop_nil]
        rw [hbd.out] at hx
        exact hx
      clear hm0
      have hT : Hid (∀ k, (bs.drop k).length = n - k) := hdl
      obtain ⟨tl, htl⟩ : ∃ tl, tl = bs.drop m := ⟨_, rfl⟩
      have hTL : Hid (tl = bs.drop m) := htl
      have htn : tl.length = n - m := by rw [htl, hdl]
      have htn' : Hid (tl.length = n - m) := htn
      have hrl : Hid (n % 64 = tl.length ∧ tl.length < 64) := show n % 64 = tl.length ∧ tl.length < 64 by omega
      have hS := Bs.src (P := Tryz.prog) Tryz.underlying94 B1
      rw [← htl, htn] at hS
      clear hm ha1 hdl htl htn
      go_wp2_with (at_builtin; refine wpList_append_src rfl (.tmp 26) (.tmp 29) rfl Tryz.underlying94 Tryz.info5 rfl _ [] rfl (Own.nil _ _) _ (n - m) (tl.map bv) rfl ?src ?b ?m ?_)
      case b => omega
      case m => simp only [maxLen]; omega
      intro v1 w1 O1 G1 _
      have Rh1 := Rh.turn G1.turn (fun q => by cases q)
      have Rz1 := Rz.turn G1.turn (fun q => by cases q)
      have T1 : Turn no w w1 := T.fresh G1 (fun g q => by cases q)
      have f1 : ∀ g, v1.ownBlock = some g → w.heap.size + 1 < g := fun g q => by
        have := G1.fresh (B := w.heap.size + 2) (fun g q => by cases q) (by have := Rh.lt; omega) g q
        omega
      clear hS B1 G1 Rh Rz T
      obtain ⟨ad1, cp1, hv1⟩ := (show Own w1 5 v1 (tl.map bv) by simpa using O1).bs.slice
      subst hv1
      go_wp2_with (at_builtin; refine wpList_append_src rfl (.tmp 31) (.tmp 32) rfl Tryz.underlying94 Tryz.info5 rfl _ (tl.map bv) rfl (O1.turn_no ((Turn.refl no w1).alloc _)) _ 1 (List.map bv [128]) rfl ?src2 ?b2 ?m2 ?_)
      case src2 => exact src_byte Tryz.underlying94 w1 _ _ rfl
      case b2 => rw [List.length_map, htn'.out]; omega
      case m2 => rw [List.length_map, htn'.out]; simp only [maxLen]; omega
      intro v2 w2 O2 G2 _
      have O2' : Own w2 5 v2 ((zl tl 0).map bv) := by simpa [zl] using O2
      have Rh2 := (Rh1.alloc _).turn G2.turn (fun q => by have := f1 _ q; omega)
      have Rz2 := (Rz1.alloc _).turn G2.turn (fun q => by have := f1 _ q; omega)
      have T2 : Turn no w w2 := (T1.alloc _).fresh G2 (fun g q => by have := f1 g q; omega)
      have f2 : ∀ g, v2.ownBlock = some g → w.heap.size + 1 < g := fun g q => by
        have := G2.fresh (B := w.heap.size + 2) (fun g q => by have := f1 g q; omega) (by have := Rh1.lt; simp; omega) g q
        omega
      clear O2 G2 O1 Rh1 Rz1 T1 f1
      obtain ⟨a2, c2, hv2⟩ := O2'.bs.slice
      subst hv2
      go_wp2_with fail
      go_loopw [5] (fun v wr => ∃ (j : Nat), j + 1 ≤ fillOf n ∧ Own wr 5 v ((zl tl j).map bv) ∧ (∀ g, v.ownBlock = some g → w.heap.size + 1 < g) ∧ Row wr (w.heap.size + 1) (lit8 (shaP bs k)) 119 ∧ Row wr w.heap.size z 40 ∧ Turn no w wr)
        (fun v _ => match v with | .slice _ l _ => 200 - l | _ => 0)
      case atStart => exact ⟨0, (fill_pos n).1, O2', f2, Rh2, Rz2, T2⟩
      case round =>
        clear O2' f2 Rh2 Rz2 T2
        obtain ⟨j, hj, O, f, Rh, Rz, T⟩ := hrel
        have hfp := fill_pos n
        have hl2 : (zl tl j).length = tl.length + (j + 1) := zl_len tl j
        obtain ⟨a3, c3, hv3⟩ := O.bs.slice
        obtain ⟨L, hL⟩ : ∃ L, L = (zl tl j).length := ⟨_, rfl⟩
        rw [← hL] at hv3
        have hLL : Hid (L = tl.length + (j + 1)) := show L = tl.length + (j + 1) by omega
        have hLs : L ≤ 150 := by have := hrl.out; omega
        have hOl : ((zl tl j).map bv).length = L := by rw [List.length_map, hL]
        subst hv3
        by_cases hlt : j + 1 < fillOf n
        · have hne : (((L : Int) % 64) != 56) = true := by
            have := hrl.out
            have h3 : L % 64 ≠ 56 := by have := hLL.out; unfold fillOf at hlt; omega
            simp
            omega
          clear hL hl2
          go_wp2_with (at_builtin; refine wpList_append_src rfl (.tmp 38) (.tmp 39) rfl Tryz.underlying94 Tryz.info5 rfl _ ((zl tl j).map bv) rfl (O.turn_no ((Turn.refl no wr).alloc _)) _ 1 (List.map bv [0]) rfl ?src3 ?b3 ?m3 ?_)
          case src3 => exact src_byte Tryz.underlying94 wr _ _ rfl
          case b3 => rw [hOl]; omega
          case m3 => rw [hOl]; simp only [maxLen]; omega
          intro v4 w4 O4 G4 _
          have O4' : Own w4 5 v4 ((zl tl (j + 1)).map bv) := by
            rw [zl_succ, List.map_append]
            exact O4
          have f4 : ∀ g, v4.ownBlock = some g → w.heap.size + 1 < g := fun g q => by
            have := G4.fresh (B := w.heap.size + 2) (fun g q => by have := f g q; omega) (by have := Rh.lt; simp; omega) g q
            omega
          have Rh4 := (Rh.alloc _).turn G4.turn (fun q => by have := f _ q; omega)
          have Rz4 := (Rz.alloc _).turn G4.turn (fun q => by have := f _ q; omega)
          have T4 : Turn no w w4 := (T.alloc _).fresh G4 (fun g q => by have := f g q; omega)
          obtain ⟨a4, c4, hv4⟩ := O4'.bs.slice
          have hl4 : (zl tl (j + 1)).length = L + 1 := by rw [zl_len]; have := hLL.out; omega
          rw [hl4] at hv4
          subst hv4
          clear O4 G4 O
          go_wp2_with fail
          go_roundw
          case rel => exact ⟨j + 1, hlt, O4', f4, Rh4, Rz4, T4⟩
          case measure => simp; omega
        · have hjf : j = fillOf n - 1 := by omega
          have hne : (((L : Int) % 64) != 56) = false := by
            have := hrl.out
            have h3 : L % 64 = 56 := by have := hLL.out; rw [hjf] at this; unfold fillOf at this; omega
            simp
            omega
          have hLf : Hid (L = tl.length + fillOf n) := show L = tl.length + fillOf n by have := hLL.out; omega
          have O0 : Own wr 5 (.slice a3 L c3) ((ll tl n 0).map bv) := by
            have e : ll tl n 0 = zl tl j := by simp [ll, hjf]
            rw [e]
            exact O
          have hw8 : IntKind.u64.wrap ((n : Int) * 8) = (n : Int) * 8 := by rw [IntKind.wrap_u64]; omega
          clear O hL hl2 hOl hj hlt hjf
          go_wp2_with fail
          go_loopw [5, 7] (fun v i wr => ∃ (c : Nat), c ≤ 8 ∧ i = .int .i64 (7 - (c : Int)) ∧ Own wr 5 v ((ll tl n c).map bv) ∧ (∀ g, v.ownBlock = some g → w.heap.size + 1 < g) ∧ Row wr (w.heap.size + 1) (lit8 (shaP bs k)) 119 ∧ Row wr w.heap.size z 40 ∧ Turn no w wr)
            (fun _ i _ => (intOf i + 1).toNat)
          case atStart => exact ⟨0, by omega, rfl, O0, f, Rh, Rz, T⟩
          case round =>
            clear O0 f Rh Rz T
            obtain ⟨c, hc, rfl, O, f, Rh, Rz, T⟩ := hrel
            have hl3 := ll_len tl n c
            obtain ⟨a5, c5, hv5⟩ := O.bs.slice
            obtain ⟨L5, hL5⟩ : ∃ L, L = (ll tl n c).length := ⟨_, rfl⟩
            rw [← hL5] at hv5
            have hOl : ((ll tl n c).map bv).length = L5 := by rw [List.length_map, hL5]
            have hLs5 : L5 ≤ 200 := by have := hrl.out; omega
            subst hv5
            by_cases hlt : c < 8
            · have hlt' : (0 : Int) ≤ 7 - (c : Int) := by omega
              have hlt'' : (0 : Int) ≤ 8 * (7 - (c : Int)) := by omega
              have hl5 : (ll tl n (c + 1)).length = L5 + 1 := by rw [ll_len]; omega
              have hlt3 : (c : Int) ≤ 7 := by omega
              clear hL5 hl3
              go_wp2_with (at_builtin; refine wpList_append_src rfl (.tmp 49) (.tmp 56) rfl Tryz.underlying94 Tryz.info5 rfl _ ((ll tl n c).map bv) rfl (O.turn_no ((Turn.refl no wr).alloc _)) _ 1 (List.map bv [byteOf ((n : Int) * 8 / 2 ^ (8 * (7 - c)))]) rfl ?src4 ?b4 ?m4 ?_)
              case src4 => exact src_byte Tryz.underlying94 wr _ _ (byteOf_val _).symm
              case b4 => rw [hOl]; omega
              case m4 => rw [hOl]; simp only [maxLen]; omega
              intro v6 w6 O6 G6 _
              have O6' : Own w6 5 v6 ((ll tl n (c + 1)).map bv) := by
                rw [ll_succ, List.map_append]
                exact O6
              have f6 : ∀ g, v6.ownBlock = some g → w.heap.size + 1 < g := fun g q => by
                have := G6.fresh (B := w.heap.size + 2) (fun g q => by have := f g q; omega) (by have := Rh.lt; simp; omega) g q
                omega
              have Rh6 := (Rh.alloc _).turn G6.turn (fun q => by have := f _ q; omega)
              have Rz6 := (Rz.alloc _).turn G6.turn (fun q => by have := f _ q; omega)
              have T6 : Turn no w w6 := (T.alloc _).fresh G6 (fun g q => by have := f g q; omega)
              obtain ⟨a6, c6, hv6⟩ := O6'.bs.slice
              rw [hl5] at hv6
              subst hv6
              clear O6 G6 O
              go_wp2_with fail
              go_roundw
              case rel => exact ⟨c + 1, by omega, by go_num, O6', f6, Rh6, Rz6, T6⟩
              case measure => simp [intOf]; omega
            · have hc8 : c = 8 := by omega
              subst hc8
              have hlt' : ¬ (0 : Int) ≤ 7 - (8 : Int) := by omega
              have hEp := ll_pad tl n
              rw [hEp] at O hL5 hl3 hOl
              obtain ⟨E, hE⟩ : ∃ E, E = tl ++ padOf n := ⟨_, rfl⟩
              rw [← hE] at O hL5 hl3 hOl
              have hHE : Hid (E = tl ++ padOf n) := hE
              have hLm : Hid (L5 % 64 = 0 ∧ 64 ≤ L5) := show L5 % 64 = 0 ∧ 64 ≤ L5 by
                have := hrl.out
                unfold fillOf at hl3
                omega
              have BE := O.bs
              have hLE : Hid (L5 = E.length) := hL5
              obtain ⟨b6, o6, cp6, hv6, hcp6, _⟩ := BE.at (by have := hLm.out; omega)
              simp only [Value.slice.injEq] at hv6
              obtain ⟨ha5, hle2, hc5⟩ := hv6
              subst ha5 hc5
              have hcp7 : L5 ≤ c5 := by omega
              clear hcp6 hle2
              have hD : Hid (∀ t, (shaP (bs ++ padOf n) (k + (t + 1))) = compress (shaP (bs ++ padOf n) (k + t)) ((E.drop (64 * t)).take 64)) := fun t => by
                rw [show k + (t + 1) = k + t + 1 by omega, shaP, hHE.out, hTL.out]
                congr 2
                have h1 : 64 * k ≤ bs.length := by have := hN.out; have := hM.out; omega
                rw [show 64 * (k + t) = 64 * k + 64 * t by omega, ← List.drop_drop, List.drop_append_of_le_length h1, hM.out]
              have hS0 : shaP (bs ++ padOf n) k = shaP bs k := shaP_app _ _ _ (by have := hN.out; have := hM.out; omega)
              rw [← hS0] at Rh
              have hSF : Hid (shaP (bs ++ padOf n) (k + L5 / 64) = shaOf bs) := by
                have h1 : (bs ++ padOf n).length / 64 = k + L5 / 64 := by
                  have hnn := hN.out
                  have hpl : (padOf n).length = fillOf n + 8 := by simp [padOf]
                  have := hLE.out
                  have := hTL.out
                  have h5 := htn'.out
                  have h6 : E.length = tl.length + (fillOf n + 8) := by rw [hHE.out, List.length_append, hpl]
                  have := hM.out
                  rw [List.length_append, hpl, ← hnn]
                  omega
                show shaP (bs ++ padOf n) (k + L5 / 64) = shaOf bs
                rw [← h1, shaOf, shaW, ← hN.out]
              clear O hL5 hl3 hOl hEp hE hc hlt hS0
              have hb6 : b6 ≠ w.heap.size + 1 := by have := f b6 rfl; omega
              go_wp2_with fail
              go_loopw [8] (fun i wr => ∃ (t m2 : Nat), m2 = 64 * t ∧ m2 ≤ L5 ∧ i = .int .i64 (m2 : Int) ∧ Row wr (w.heap.size + 1) (lit8 (shaP (bs ++ padOf n) (k + t))) 119 ∧ Row wr w.heap.size z 40 ∧ Bs wr (.slice (some ⟨b6, o6, none⟩) L5 c5) E ∧ Turn no w wr) (fun i _ => L5 - (intOf i).toNat)
              case atStart => exact ⟨0, 0, rfl, Nat.zero_le _, rfl, Rh, Rz, BE, T⟩
              case round =>
                clear Rh Rz BE T
                obtain ⟨t, m2, hm2, hk2, rfl, Rh, Rz, BE', T⟩ := hrel
                have hlm := hLm.out
                by_cases hlt2 : m2 < L5
                · have hlt2' : (m2 : Int) < (L5 : Int) := by omega
                  have hge2 : m2 + 64 ≤ L5 := by omega
                  have hb64 : Bs wr (.slice (some ⟨b6, o6 + m2, none⟩) 64 (c5 - m2)) ((E.drop m2).take 64) := by
                    have h1 := (BE'.from m2 (by rw [← hLE.out]; omega) (some ⟨b6, o6 + m2, none⟩) (fun _ => rfl))
                    rw [← hLE.out] at h1
                    exact bs_cut h1 64 (by rw [List.length_drop, ← hLE.out]; omega)
                  have hblk := fun W (u : Turn no wr W) => block_lit W (shaP (bs ++ padOf n) (k + t)) (shaP_len _ _) _ _ (hb64.turn_no u) (by rw [List.length_take, List.length_drop, ← hLE.out]; omega) (hl.turn (T.then_no u) (fun q => q)) (by have := (T.then_no u).size; omega)
                  have hnx : shaP (bs ++ padOf n) (k + (t + 1)) = compress (shaP (bs ++ padOf n) (k + t)) ((E.drop m2).take 64) := by rw [hm2]; exact hD.out t
                  rw [← hnx] at hblk
                  have hM2 : Hid (m2 = 64 * t) := hm2
                  clear hm2 hb64 hnx
                  have hR := Rh
                  have hL8 : Hid (lit8 (shaP (bs ++ padOf n) (k + (t + 1))) = #[.int .u32 ((shaP (bs ++ padOf n) (k + (t + 1))).getD 0 0), .int .u32 ((shaP (bs ++ padOf n) (k + (t + 1))).getD 1 0), .int .u32 ((shaP (bs ++ padOf n) (k + (t + 1))).getD 2 0), .int .u32 ((shaP (bs ++ padOf n) (k + (t + 1))).getD 3 0), .int .u32 ((shaP (bs ++ padOf n) (k + (t + 1))).getD 4 0), .int .u32 ((shaP (bs ++ padOf n) (k + (t + 1))).getD 5 0), .int .u32 ((shaP (bs ++ padOf n) (k + (t + 1))).getD 6 0), .int .u32 ((shaP (bs ++ padOf n) (k + (t + 1))).getD 7 0)]) := rfl
                  unfold lit8 at hR hblk
                  generalize (shaP (bs ++ padOf n) (k + t)).getD 0 0 = x0 at *
                  generalize (shaP (bs ++ padOf n) (k + (t + 1))).getD 0 0 = y0 at *
                  generalize (shaP (bs ++ padOf n) (k + t)).getD 1 0 = x1 at *
                  generalize (shaP (bs ++ padOf n) (k + (t + 1))).getD 1 0 = y1 at *
                  generalize (shaP (bs ++ padOf n) (k + t)).getD 2 0 = x2 at *
                  generalize (shaP (bs ++ padOf n) (k + (t + 1))).getD 2 0 = y2 at *
                  generalize (shaP (bs ++ padOf n) (k + t)).getD 3 0 = x3 at *
                  generalize (shaP (bs ++ padOf n) (k + (t + 1))).getD 3 0 = y3 at *
                  generalize (shaP (bs ++ padOf n) (k + t)).getD 4 0 = x4 at *
                  generalize (shaP (bs ++ padOf n) (k + (t + 1))).getD 4 0 = y4 at *
                  generalize (shaP (bs ++ padOf n) (k + t)).getD 5 0 = x5 at *
                  generalize (shaP (bs ++ padOf n) (k + (t + 1))).getD 5 0 = y5 at *
                  generalize (shaP (bs ++ padOf n) (k + t)).getD 6 0 = x6 at *
                  generalize (shaP (bs ++ padOf n) (k + (t + 1))).getD 6 0 = y6 at *
                  generalize (shaP (bs ++ padOf n) (k + t)).getD 7 0 = x7 at *
                  generalize (shaP (bs ++ padOf n) (k + (t + 1))).getD 7 0 = y7 at *
                  have cc0 := hR.cell 0 _ rfl
                  have cc1 := hR.cell 1 _ rfl
                  have cc2 := hR.cell 2 _ rfl
                  have cc3 := hR.cell 3 _ rfl
                  have cc4 := hR.cell 4 _ rfl
                  have cc5 := hR.cell 5 _ rfl
                  have cc6 := hR.cell 6 _ rfl
                  have cc7 := hR.cell 7 _ rfl
                  have hc1 : ¬ c5 = m2 := by omega
                  have hc2 : (m2 : Int) + 64 ≤ (c5 : Int) := by omega
                  have hc3 : m2 + 64 - m2 = 64 := by omega
                  have hc5' : (m2 : Int) ≤ (m2 : Int) + 64 := by omega
                  have hc6 : ((m2 : Int) + 64).toNat = m2 + 64 := by omega
                  have hw64 : IntKind.i64.wrap ((m2 : Int) + 64) = (m2 : Int) + 64 := by rw [IntKind.wrap_i64]; omega
                  have hw65 : (m2 : Int) + 64 ≤ 9223372036854775807 := by omega
                  have hD' : Turn no wr wr.drew := (Turn.refl no wr).drew
                  go_wp2_with fail
                  go_region_with (go_at_call 72; refine (hblk _ hD').mono ?_; rintro e w5 ⟨rfl, t5⟩; have R5 := (hR.drew).turn t5 (fun q => q); have d0 := R5.cell 0 _ rfl; have d1 := R5.cell 1 _ rfl; have d2 := R5.cell 2 _ rfl; have d3 := R5.cell 3 _ rfl; have d4 := R5.cell 4 _ rfl; have d5 := R5.cell 5 _ rfl; have d6 := R5.cell 6 _ rfl; have d7 := R5.cell 7 _ rfl; have fz := fun j => R5.frozen j)
                  all_goals
                    go_wp2_with fail
                    go_roundw
                    case rel =>
                      refine ⟨t + 1, m2 + 64, by rw [hM2.out]; omega, hge2, by go_num, ?_, ((((((((((Rz.drew).turn t5 (fun q => q)).other (by show w.heap.size + 1 ≠ w.heap.size; omega) _).other (by show w.heap.size + 1 ≠ w.heap.size; omega) _).other (by show w.heap.size + 1 ≠ w.heap.size; omega) _).other (by show w.heap.size + 1 ≠ w.heap.size; omega) _).other (by show w.heap.size + 1 ≠ w.heap.size; omega) _).other (by show w.heap.size + 1 ≠ w.heap.size; omega) _).other (by show w.heap.size + 1 ≠ w.heap.size; omega) _).other (by show w.heap.size + 1 ≠ w.heap.size; omega) _), ((((((((((BE'.turn_no hD').turn_no t5).turn (Turn.setCell (S := fun k => k = w.heap.size + 1) (p := ⟨w.heap.size + 1, 0, none⟩) (Turn.refl _ _) (fun _ => rfl) _) (fun g q r => hb6 (by cases q; exact r))).turn (Turn.setCell (S := fun k => k = w.heap.size + 1) (p := ⟨w.heap.size + 1, 1, none⟩) (Turn.refl _ _) (fun _ => rfl) _) (fun g q r => hb6 (by cases q; exact r))).turn (Turn.setCell (S := fun k => k = w.heap.size + 1) (p := ⟨w.heap.size + 1, 2, none⟩) (Turn.refl _ _) (fun _ => rfl) _) (fun g q r => hb6 (by cases q; exact r))).turn (Turn.setCell (S := fun k => k = w.heap.size + 1) (p := ⟨w.heap.size + 1, 3, none⟩) (Turn.refl _ _) (fun _ => rfl) _) (fun g q r => hb6 (by cases q; exact r))).turn (Turn.setCell (S := fun k => k = w.heap.size + 1) (p := ⟨w.heap.size + 1, 4, none⟩) (Turn.refl _ _) (fun _ => rfl) _) (fun g q r => hb6 (by cases q; exact r))).turn (Turn.setCell (S := fun k => k = w.heap.size + 1) (p := ⟨w.heap.size + 1, 5, none⟩) (Turn.refl _ _) (fun _ => rfl) _) (fun g q r => hb6 (by cases q; exact r))).turn (Turn.setCell (S := fun k => k = w.heap.size + 1) (p := ⟨w.heap.size + 1, 6, none⟩) (Turn.refl _ _) (fun _ => rfl) _) (fun g q r => hb6 (by cases q; exact r))).turn (Turn.setCell (S := fun k => k = w.heap.size + 1) (p := ⟨w.heap.size + 1, 7, none⟩) (Turn.refl _ _) (fun _ => rfl) _) (fun g q r => hb6 (by cases q; exact r))), ((((((((((T.drew).then_no t5).setCell (fun r => by have r' : w.heap.size + 1 < w.heap.size := r; omega) _).setCell (fun r => by have r' : w.heap.size + 1 < w.heap.size := r; omega) _).setCell (fun r => by have r' : w.heap.size + 1 < w.heap.size := r; omega) _).setCell (fun r => by have r' : w.heap.size + 1 < w.heap.size := r; omega) _).setCell (fun r => by have r' : w.heap.size + 1 < w.heap.size := r; omega) _).setCell (fun r => by have r' : w.heap.size + 1 < w.heap.size := r; omega) _).setCell (fun r => by have r' : w.heap.size + 1 < w.heap.size := r; omega) _).setCell (fun r => by have r' : w.heap.size + 1 < w.heap.size := r; omega) _)⟩
                      rw [hL8.out]
                      exact Row.up8 R5 _ _ _ _ _ _ _ _
                    case measure => simp [intOf]; omega
                · have hlt2' : ¬ (m2 : Int) < (L5 : Int) := by omega
                  have htL : k + t = k + L5 / 64 := by omega
                  rw [htL, hSF.out] at Rh
                  have hwl : (shaOf bs).length = 8 := shaP_len _ _
                  generalize hwsE : shaOf bs = ws at *
                  have HE : Hid (shaOf bs = ws) := hwsE
                  have hcl : ∀ j, j < 8 → (lit8 ws)[j]? = some (.int .u32 (ws.getD j 0)) := fun j hj => by
                    have : j = 0 ∨ j = 1 ∨ j = 2 ∨ j = 3 ∨ j = 4 ∨ j = 5 ∨ j = 6 ∨ j = 7 := by omega
                    rcases this with rfl | rfl | rfl | rfl | rfl | rfl | rfl | rfl <;> rfl
                  generalize lit8 ws = lw at *
                  have hq1 := Rh.lt
                  clear hm2 hwsE htL BE'
                  obtain ⟨q9, hq9⟩ : ∃ q, q = wr.heap.size := ⟨_, rfl⟩
                  have hQ9 : Hid (q9 = wr.heap.size) := hq9
                  have hq2 : w.heap.size + 1 < q9 := by omega
                  clear hq9 hq1
                  go_wp2_with fail
                  rw [← hQ9.out]
                  go_loopw [10] (fun c wx => ∃ (k : Nat) (ou : Array Value), k ≤ 32 ∧ c = .int .i64 k ∧ Row wx q9 ou 40 ∧ ou.size = 32 ∧ (∀ j, j < k → ou[j]? = some (bv (hashAt ws j))) ∧ Row wx (w.heap.size + 1) lw 119 ∧ Row wx w.heap.size z 40 ∧ Turn no w wx) (fun c _ => 32 - (intOf c).toNat)
                  case atStart => exact ⟨0, _, Nat.zero_le _, rfl, Row.newAt' _ _ _ _ hQ9.out, rfl, fun j q => by omega, Rh.alloc _, Rz.alloc _, T.alloc _⟩
                  case round =>
                    clear Rh Rz T
                    obtain ⟨k5, ou, hk5, rfl, Ro, hos, hou, Rm, Rz, T⟩ := hrel
                    by_cases hlt5 : k5 < 32
                    · have hlt5' : (k5 : Int) < 32 := by omega
                      have cw := Rm.cell (k5 / 4) _ (hcl (k5 / 4) (by omega))
                      have co := Ro.cell k5 (ou[k5]'(by omega)) (by simp [hos, hlt5])
                      have fo := Ro.frozen k5
                      have hq8 : (k5 : Int) / 4 < 8 := by omega
                      have hr3 : (0 : Int) ≤ 24 - 8 * ((k5 : Int) % 4) := by omega
                      have hha : bv (hashAt ws k5) = .int .u8 (ws.getD (k5 / 4) 0 / 2 ^ (8 * (3 - k5 % 4)) % 256) := bv_byteOf _
                      generalize ws.getD (k5 / 4) 0 = x at *
                      have hsh : 24 - 8 * (k5 % 4) = 8 * (3 - k5 % 4) := by omega
                      go_wp2_with fail
                      go_roundw
                      case rel =>
                        refine ⟨k5 + 1, _, by omega, by go_num, Ro.set k5 _, by simpa using hos, fun j hj => ?_, Rm.other (by show q9 ≠ w.heap.size + 1; omega) _, Rz.other (by show q9 ≠ w.heap.size; omega) _, T.setCell (fun r => by have r' : q9 < w.heap.size := r; omega) _⟩
                        by_cases hjk : j = k5
                        · subst hjk
                          rw [Array.getElem?_setIfInBounds_self_of_lt (by omega), hha]
                        · rw [Array.getElem?_setIfInBounds_ne (by omega)]
                          exact hou j (by omega)
                      case measure => simp [intOf]; omega
                    · have hlt5' : ¬ (k5 : Int) < 32 := by omega
                      have hk32 : k5 = 32 := by omega
                      subst hk32
                      have hwhole : ou = (((List.range 32).map (hashAt ws)).map bv).toArray := by
                        apply Array.ext
                        · simp [hos]
                        · intro i h1 h2
                          have := hou i (by omega)
                          rw [Array.getElem?_eq_getElem h1] at this
                          simp at this
                          simp [this]
                      have HW : Hid (ou = (((List.range 32).map (hashAt ws)).map bv).toArray) := hwhole
                      have h1 : ou.all (·.oneCell') = true := by rw [hwhole]; simp [bv, Value.oneCell']
                      have hi : (Tryz.prog.info? 40).map (·.size) = some ou.size := by rw [hos]; exact size35
                      clear hwhole hou hcl
                      go_wp2_with (first
                        | (refine wpList_load_row rfl 40 (.tmp 9) rfl q9 rfl 40 ou (0, 0) _ Ro Tryz.underlying40 rfl hi ?_)
                        | (refine wpList_store_row rfl 40 (.tmp 2) (.tmp 88) rfl w.heap.size ou rfl rfl 40 z Rz hi (by omega) h1 ?_))
                      refine bodyPost_ret (v := .agg ou) ?_ rfl ⟨by rw [HW.out, hashOf, HE.out], T.setRow _ _ (fun q => by omega)⟩
                      exact results_cell_row (P := Tryz.prog) Tryz.results47 _ _ w.heap.size 40 ou (0, 0) _ rfl (setRow_heap _ _ _ _ _ _ Rz) Tryz.underlying40 rfl hi
end Go.Proofs.YtaoigopjfelgpaaGreatDoor



/- roomy; the reference's Leaf. -/
namespace Go.Proofs.YtaoigopjfelgpaaGreatDoor
open Go.RowKit
set_option linter.unusedVariables false

theorem rsum_all (w : World) (va : Value) (bs : List UInt8) (hb : Bs w va bs) (hl : Laid0 w) (h2 : 2 ≤ w.heap.size) (hsz : bs.length ≤ 140737488355328) :
    Calls Tryz.prog 47 #[va] w fun e w' => e = .returned (.agg (hv bs)) ∧ Turn no w w' := by
  by_cases h0 : bs = []
  · subst h0
    obtain ⟨a, c, rfl⟩ := hb.slice
    exact rsum_none w a c hb hl h2
  · exact rsum_any w va bs hb hl h2 hsz (by cases bs with | nil => exact (h0 rfl).elim | cons => simp)

theorem src_two (w : World) (a b : UInt8) : Src Tryz.prog 1 94 (.slice (some ⟨w.heap.size, 0, none⟩) 2 2) 2 (List.map bv [a, b]) (w.alloc (.cells #[bv a, bv b] 5)) :=
  Bs.src (P := Tryz.prog) Tryz.underlying94 (row_bs (X := [a, b]) (Row.new w #[bv a, bv b] 5) (by simp [maxLen]))

set_option maxRecDepth 100000 in
set_option maxHeartbeats 4000000 in
theorem leafText_any (w : World) (va : Value) (bs : List UInt8) (hb : Bs w va bs) (hsz : bs.length + 1 ≤ 140737488355328) :
    Calls Tryz.prog 118 #[va] w fun e w' => ∃ v, e = .returned v ∧ Own w' 5 v ((0 :: bs).map bv) ∧ Turn no w w' := by
  have S := fun W (t : Turn no w W) => Bs.src (P := Tryz.prog) Tryz.underlying94 (hb.turn_no t)
  obtain ⟨a, c, rfl⟩ := hb.slice
  have hl : (bs.map bv).length = bs.length := by simp
  have hjoin : (0 :: bs).map bv = List.map bv [0] ++ bs.map bv := by simp
  rw [hjoin]
  generalize bs.map bv = BL at *
  have O1 := own_one w 0
  have S1 := S _ ((Turn.refl no w).alloc (.cells #[bv 0] 5))
  clear hjoin S
  go_enter Tryz.func118, Tryz.ntmps118
  go_wp2_with (at_builtin; refine wpList_append_src rfl (.tmp 5) (.tmp 6) rfl Tryz.underlying94 Tryz.info5 rfl _ (List.map bv [0]) rfl O1 _ bs.length BL rfl S1 ?b1 ?m1 ?_)
  case b1 => simp; omega
  case m1 => simp [maxLen]; omega
  intro v2 w2 O2 G2 _
  have T2 : Turn no w w2 := ((Turn.refl no w).alloc (.cells #[bv 0] 5)).fresh G2 (fun g q => by simp [Value.ownBlock] at q; omega)
  have O2' : Own w2 5 v2 (List.map bv [0] ++ BL) := by simpa using O2
  obtain ⟨ad, ln, cp, rfl⟩ := O2.form
  go_wp2_with fail
  go_ret
  exact ⟨_, rfl, O2', T2⟩

set_option maxRecDepth 100000 in
set_option maxHeartbeats 4000000 in
theorem leaf21 (w : World) (va : Value) (bs : List UInt8) (hb : Bs w va bs) (hl : Laid0 w) (h2 : 2 ≤ w.heap.size) (hsz : bs.length + 1 ≤ 140737488355328) :
    Calls Tryz.prog 114 #[va] w fun e w' => e = .returned (.agg (hv (0 :: bs))) ∧ Turn no w w' := by
  have htext := fun W (t : Turn no w W) => leafText_any W va bs (hb.turn_no t) hsz
  have hsum := fun W (T : Turn no w W) v (O : Own W 5 v ((0 :: bs).map bv)) => rsum_all W v (0 :: bs) O.bs (hl.turn T (fun q => q)) (by have := T.size; omega) (by simp; omega)
  obtain ⟨a, c, rfl⟩ := hb.slice
  have h1 := hv_one (0 :: bs)
  have hs := hv_size (0 :: bs)
  have hi := hv_info (0 :: bs)
  generalize hv (0 :: bs) = H at *
  generalize (0 :: bs).map bv = TX at *
  clear hb
  go_enter Tryz.func114, Tryz.ntmps114
  go_wp2_with fail
  refine (htext _ ((Turn.refl no w).alloc _)).mono ?_
  rintro e w3 ⟨v3, rfl, O3, t3⟩
  obtain ⟨z, RZ3, hzs⟩ : ∃ z, Row w3 w.heap.size z 40 ∧ z.size = 32 := ⟨_, (Row.new w _ 40).turn t3 (fun q => q), rfl⟩
  have T3 : Turn no w w3 := ((Turn.refl no w).alloc _).then_no t3
  have hc := hsum _ T3 _ O3
  obtain ⟨ad3, ln3, cp3, rfl⟩ := O3.form
  clear hsum htext t3
  go_wp2_with fail
  refine hc.mono ?_
  rintro e w5 ⟨rfl, t5⟩
  have RZ5 := RZ3.turn t5 (fun q => q)
  have T5 := T3.then_no t5
  go_wp2_with (refine wpList_store_row rfl 40 (.tmp 2) (.tmp 5) rfl w.heap.size H rfl rfl 40 z RZ5 hi (by omega) h1 ?_)
  refine bodyPost_ret (v := .agg H) ?_ rfl ⟨rfl, T5.setRow _ _ (fun q => by omega)⟩
  exact results_cell_row (P := Tryz.prog) Tryz.results114 _ _ w.heap.size 40 H (0, 0) _ rfl (setRow_heap _ _ _ _ _ _ RZ5) Tryz.underlying40 rfl hi

end Go.Proofs.YtaoigopjfelgpaaGreatDoor


