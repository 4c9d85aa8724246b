/- The reference's block: the same words. -/
import Derived.Test.YtgbcdjjnpadddaaGreatDoorDp
namespace Go.Proofs.YtgbcdjjnpadddaaGreatDoor
open Go.RowKit
set_option linter.unusedVariables false

def okc (c : Int) : Bool := c == 2 || c == 6 || c == 7 || c == 11 || c == 13 || c == 17 || c == 18 || c == 19 || c == 22 || c == 25
def rotC (c x : Int) : Int := rotI (2 ^ c.toNat) (2 ^ (32 - c).toNat) x
theorem turnC (w : World) (x c : Int) (hc : okc c = true) : Calls Tryz.prog 163 #[.int .u32 x, .int .u64 c] w fun e w' => e = .returned (.int .u32 (rotC c x)) ∧ w' = w := by
  simp [okc, or_assoc] at hc
  rcases hc with rfl | rfl | rfl | rfl | rfl | rfl | rfl | rfl | rfl | rfl
  · exact turn2 w x
  · exact turn6 w x
  · exact turn7 w x
  · exact turn11 w x
  · exact turn13 w x
  · exact turn17 w x
  · exact turn18 w x
  · exact turn19 w x
  · exact turn22 w x
  · exact turn25 w x
theorem turnQ0 (W : World) (x : Nat) (v c : Int) (hc : okc c = true) : Calls Tryz.prog 163 #[.int .u32 v, .int .u64 c] (W.drewN x) fun e w' => e = .returned (.int .u32 (rotC c v)) ∧ ∃ m, w' = W.drewN m :=
  (turnC _ v c hc).mono (fun _ _ q => ⟨q.1, x, q.2⟩)
theorem turnQ (W : World) (n x : Nat) (v c : Int) (hc : okc c = true) : Calls Tryz.prog 163 #[.int .u32 v, .int .u64 c] (W.drewN (n + x)) fun e w' => e = .returned (.int .u32 (rotC c v)) ∧ ∃ m, w' = W.drewN (n + m) :=
  (turnC _ v c hc).mono (fun _ _ q => ⟨q.1, x, q.2⟩)

theorem arr8 (v0 v1 v2 v3 v4 v5 v6 v7 u0 u1 u2 u3 u4 u5 u6 u7 : Value) : (((((((((#[v0, v1, v2, v3, v4, v5, v6, v7] : Array Value).setIfInBounds 7 u7).setIfInBounds 6 u6).setIfInBounds 5 u5).setIfInBounds 4 u4).setIfInBounds 3 u3).setIfInBounds 2 u2).setIfInBounds 1 u1).setIfInBounds 0 u0) = #[u0, u1, u2, u3, u4, u5, u6, u7] := by kernel_rfl
theorem rotC2 (x : Int) : rotC 2 x = rotI 4 1073741824 x := rfl
theorem rotC6 (x : Int) : rotC 6 x = rotI 64 67108864 x := rfl
theorem rotC11 (x : Int) : rotC 11 x = rotI 2048 2097152 x := rfl
theorem rotC13 (x : Int) : rotC 13 x = rotI 8192 524288 x := rfl
theorem rotC22 (x : Int) : rotC 22 x = rotI 4194304 1024 x := rfl
theorem rotC25 (x : Int) : rotC 25 x = rotI 33554432 128 x := rfl
theorem step_eq (a b c d e f g h y x : Int) : step ⟨a, b, c, d, e, f, g, h⟩ y x = ⟨(h + bits .xor .u32 (bits .xor .u32 (rotC 6 e) (rotC 11 e)) (rotC 25 e) + bits .xor .u32 (bits .and .u32 e f) (bits .and .u32 (bits .xor .u32 IntKind.u32.max e) g) + y + x + bits .xor .u32 (bits .xor .u32 (rotC 2 a) (rotC 13 a)) (rotC 22 a) + bits .xor .u32 (bits .xor .u32 (bits .and .u32 a b) (bits .and .u32 a c)) (bits .and .u32 b c)) % 4294967296, a, b, c, (d + (h + bits .xor .u32 (bits .xor .u32 (rotC 6 e) (rotC 11 e)) (rotC 25 e) + bits .xor .u32 (bits .and .u32 e f) (bits .and .u32 (bits .xor .u32 IntKind.u32.max e) g) + y + x)) % 4294967296, e, f, g⟩ := by
  simp only [step, big1, big0, ch, maj, rotC2, rotC6, rotC11, rotC13, rotC22, rotC25]

theorem Row.set8 {w : World} {q : Nat} {e : TypeId} {v0 v1 v2 v3 v4 v5 v6 v7 : Value} (h : Row w q #[v0, v1, v2, v3, v4, v5, v6, v7] e) (u0 u1 u2 u3 u4 u5 u6 u7 : Value) : Row ((((((((w.setCell ⟨q, 7, none⟩ u7).setCell ⟨q, 6, none⟩ u6).setCell ⟨q, 5, none⟩ u5).setCell ⟨q, 4, none⟩ u4).setCell ⟨q, 3, none⟩ u3).setCell ⟨q, 2, none⟩ u2).setCell ⟨q, 1, none⟩ u1).setCell ⟨q, 0, none⟩ u0) q #[u0, u1, u2, u3, u4, u5, u6, u7] e := by
  have r := ((((((((h.set 7 u7).set 6 u6).set 5 u5).set 4 u4).set 3 u3).set 2 u2).set 1 u1).set 0 u0)
  rw [arr8] at r
  exact r

/-- Eight words as a value. -/
def wv (ws : List Int) : Array Value := (ws.map (Value.int .u32)).toArray
theorem size25 : (Tryz.prog.info? 238).map (·.size) = some 8 := by kernel_rfl

set_option maxRecDepth 100000 in
set_option maxHeartbeats 4000000 in
theorem block_any (w : World) (ws : List Int) (h8 : ws.length = 8) (va : Value) (bs : List UInt8) (hb : Bs w va bs) (h64 : bs.length = 64) (hl : Laid0 w) (h2 : 3 ≤ w.heap.size) :
    Calls Tryz.prog 149 #[.agg (wv ws), va] w fun e w' => e = .returned (.agg (wv (compress ws bs))) ∧ Turn no w w' := by
  obtain ⟨b, o, cap, rfl, hlc, hat⟩ := hb.at (by omega)
  clear hat
  rw [h64] at hlc ⊢
  have hws : (wv ws).size = 8 := by simp [wv, h8]
  have hwg : ∀ j, j < 8 → (wv ws)[j]? = some (.int .u32 (ws.getD j 0)) := fun j hj => by simp [wv, h8, hj]
  have h1 : (wv ws).all (·.oneCell') = true := by simp [wv, Value.oneCell']
  have hi : (Tryz.prog.info? 238).map (·.size) = some (wv ws).size := by rw [hws]; exact size25
  generalize wv ws = hA at *
  go_enter Tryz.func149, Tryz.ntmps149
  go_wp2_with fail
  go_loopw [6] (fun c wr => ∃ (k : Nat) (arr : Array Value), k ≤ 16 ∧ c = .int .i64 k ∧ Row wr (w.heap.size + 1 + 1) arr 262 ∧ arr.size = 64 ∧ Fill arr ((List.range k).map (wordAt bs)) ∧ Row wr w.heap.size hA 238 ∧ (∃ z, Row wr (w.heap.size + 1) z 238 ∧ z.size = 8) ∧ Turn no w wr) (fun c _ => 16 - (intOf c).toNat)
  case atStart => exact ⟨0, _, Nat.zero_le _, rfl, by simpa [Row] using heap_alloc_new ((w.alloc _).alloc _) _, rfl, fun j q => by simp at q, ((Row.new w _ _).alloc _).alloc _, ⟨_, Row.alloc (by simpa [Row] using heap_alloc_new (w.alloc _) _) _, rfl⟩, (((Turn.refl no w).alloc _).alloc _).alloc _⟩
  case round =>
    obtain ⟨k, arr, hk, rfl, hg, hs, ha, hH, ⟨z, hz, hzs⟩, T⟩ := hrel
    by_cases hlt : k < 16
    · have hlt' : (k : Int) < 16 := by omega
      have hb' := hb.turn_no T
      have c0 := hb'.byte (4 * k) (by omega)
      have c1 := hb'.byte (4 * k + 1) (by omega)
      have c2 := hb'.byte (4 * k + 2) (by omega)
      have c3 := hb'.byte (4 * k + 3) (by omega)
      clear hb hb' hwg
      have cu := hg.cell k arr[k] (by simp)
      have fz := hg.frozen k
      go_wp2_with fail
      go_region
      go_wp2_with fail
      go_roundw
      case rel =>
        refine ⟨k + 1, _, by omega, by go_num, (hg.set k _).drew, by simpa using hs, ?_, (hH.other (by show w.heap.size + 1 + 1 ≠ w.heap.size; omega) _).drew, ⟨z, (hz.other (by show w.heap.size + 1 + 1 ≠ w.heap.size + 1; omega) _).drew, hzs⟩, (T.setCell (fun q => by have q' : w.heap.size + 1 + 1 < w.heap.size := q; omega) _).drew⟩
        rw [List.range_succ, List.map_append]
        exact ha.push (wordAt bs k) (by simp; omega) k (by simp)
      case measure => simp [intOf]; omega
    · have hlt' : ¬ (k : Int) < 16 := by omega
      have hk16 : k = 16 := by omega
      subst hk16
      go_wp2_with fail
      go_loopw [7] (fun c wr => ∃ (n : Nat) (arr : Array Value), n ≤ 48 ∧ c = .int .i64 ((n + 16 : Nat) : Int) ∧ Row wr (w.heap.size + 1 + 1) arr 262 ∧ arr.size = 64 ∧ Fill arr (plan bs n) ∧ Row wr w.heap.size hA 238 ∧ (∃ z, Row wr (w.heap.size + 1) z 238 ∧ z.size = 8) ∧ Turn no w wr) (fun c _ => 64 - (intOf c).toNat)
      case atStart => exact ⟨0, arr, Nat.zero_le _, rfl, hg, hs, ha, hH, ⟨z, hz, hzs⟩, T⟩
      case round =>
        clear hg hs ha hz hzs T hH
        obtain ⟨n, arr, hn, rfl, hg, hs, ha, hH, ⟨z, hz, hzs⟩, T⟩ := hrel
        have hpl := plan_len bs n
        by_cases hlt : n < 48
        · have hlt' : ((n + 16 : Nat) : Int) < 64 := by omega
          have g16 : wr.cell? ⟨w.heap.size + 1 + 1, n, none⟩ = some (.int .u32 ((plan bs n).getD n 0)) := hg.cell n _ (ha n (by omega))
          have g15 : wr.cell? ⟨w.heap.size + 1 + 1, n + 1, none⟩ = some (.int .u32 ((plan bs n).getD (n + 1) 0)) := hg.cell _ _ (ha (n + 1) (by omega))
          have g7 : wr.cell? ⟨w.heap.size + 1 + 1, n + 9, none⟩ = some (.int .u32 ((plan bs n).getD (n + 9) 0)) := hg.cell _ _ (ha (n + 9) (by omega))
          have g2 : wr.cell? ⟨w.heap.size + 1 + 1, n + 14, none⟩ = some (.int .u32 ((plan bs n).getD (n + 14) 0)) := hg.cell _ _ (ha (n + 14) (by omega))
          have cu := hg.cell (n + 16) arr[n + 16] (by simp)
          have fz := hg.frozen (n + 16)
          have hnw : nextW (plan bs n) = ((plan bs n).getD n 0 + sig0 ((plan bs n).getD (n + 1) 0) + (plan bs n).getD (n + 9) 0 + sig1 ((plan bs n).getD (n + 14) 0)) % 4294967296 := by
            unfold nextW
            rw [hpl, show n + 16 - 16 = n by omega, show n + 16 - 15 = n + 1 by omega, show n + 16 - 7 = n + 9 by omega, show n + 16 - 2 = n + 14 by omega]
          clear hb hwg
          generalize (plan bs n).getD n 0 = x16 at *
          generalize (plan bs n).getD (n + 1) 0 = x15 at *
          generalize (plan bs n).getD (n + 9) 0 = x7 at *
          generalize (plan bs n).getD (n + 14) 0 = x2 at *
          go_wp2_with fail
          go_quiet ((first | (go_at_call 163; exact turnQ0 _ _ _ _ rfl)))
          go_wp2_with fail
          go_quiet ((first | (go_at_call 163; exact turnQ _ _ _ _ _ rfl)))
          go_wp2_with fail
          go_region
          go_wp2_with fail
          go_roundw
          case rel =>
            refine ⟨n + 1, _, by omega, by go_num, (hg.drewN _).set (n + 16) _, by simpa using hs, ?_, (hH.drewN _).other (by show w.heap.size + 1 + 1 ≠ w.heap.size; omega) _, ⟨z, (hz.drewN _).other (by show w.heap.size + 1 + 1 ≠ w.heap.size + 1; omega) _, hzs⟩, (T.drewN _).setCell (fun q => by have q' : w.heap.size + 1 + 1 < w.heap.size := q; omega) _⟩
            have hp := ha.push (nextW (plan bs n)) (by omega) (n + 16) (by omega)
            rw [hnw] at hp
            rw [plan, hnw]
            exact hp
          case measure => simp [intOf]; omega
        · have hlt' : ¬ ((n + 16 : Nat) : Int) < 64 := by omega
          have hn48 : n = 48 := by omega
          subst hn48
          have hcp : ∀ j, j < 8 → (compress ws bs).getD j 0 = (ws.getD j 0 + (rounds (plan bs 48) (St.of ws) 64).list.getD j 0) % 4294967296 := fun j hj => by simp [compress, hj]
          have hcl : (compress ws bs).length = 8 := by simp [compress]
          generalize hcE : compress ws bs = cw at *
          have HC : Hid (compress ws bs = cw) := hcE
          have hlt8 := hg.lt
          have hpi : ∀ k, k < 64 → arr[k]? = some (.int .u32 ((plan bs 48).getD k 0)) := fun k hk => ha k (by omega)
          generalize plan bs 48 = pl at *
          have hl' := hl.turn T (fun q => q)
          have hAe : hA = #[.int .u32 (St.of ws).a, .int .u32 (St.of ws).b, .int .u32 (St.of ws).c, .int .u32 (St.of ws).d, .int .u32 (St.of ws).e, .int .u32 (St.of ws).f, .int .u32 (St.of ws).g, .int .u32 (St.of ws).h] := by
            apply Array.ext_getElem?
            intro j
            by_cases hj : j < 8
            · rw [hwg j hj, st_idx _ j hj]
              have : j = 0 ∨ j = 1 ∨ j = 2 ∨ j = 3 ∨ j = 4 ∨ j = 5 ∨ j = 6 ∨ j = 7 := by omega
              rcases this with rfl | rfl | rfl | rfl | rfl | rfl | rfl | rfl <;> rfl
            · rw [Array.getElem?_eq_none (by omega), Array.getElem?_eq_none (by simp; omega)]
          have HA : Hid (hA = #[.int .u32 (St.of ws).a, .int .u32 (St.of ws).b, .int .u32 (St.of ws).c, .int .u32 (St.of ws).d, .int .u32 (St.of ws).e, .int .u32 (St.of ws).f, .int .u32 (St.of ws).g, .int .u32 (St.of ws).h]) := hAe
          clear hb ha hcE hAe
          go_wp2_with (first
            | (refine wpList_load_row rfl 238 (.tmp 2) rfl w.heap.size rfl 238 hA (0, 0) _ hH Tryz.underlying238 rfl hi ?_)
            | (refine wpList_store_row rfl 238 (.tmp 10) (.tmp 110) rfl wr.heap.size hA rfl rfl 238 _ (heap_alloc_new wr _) hi (by rw [hws]; rfl) h1 ?_))
          rw [World.setRow_alloc_new]
          have RV := Row.new wr hA 238
          have hgv := hg.alloc (.cells hA 238)
          have hHv := hH.alloc (.cells hA 238)
          have hzv := hz.alloc (.cells hA 238)
          have Tv : Turn no w (wr.alloc (.cells hA 238)) := T.alloc _
          generalize wr.alloc (.cells hA 238) = wv0 at *
          rw [HA.out] at RV
          have hlq : w.heap.size + 1 + 1 < wr.heap.size := hlt8
          generalize wr.heap.size = q at *
          clear hg hH hz T hl'
          have lv := hl.turn Tv (fun q => q)
          go_loopw [11] (fun c wr => ∃ (k : Nat) (st : St), k ≤ 64 ∧ c = .int .i64 k ∧ st = rounds pl (St.of ws) k ∧ Row wr q #[.int .u32 st.a, .int .u32 st.b, .int .u32 st.c, .int .u32 st.d, .int .u32 st.e, .int .u32 st.f, .int .u32 st.g, .int .u32 st.h] 238 ∧ Row wr (w.heap.size + 1 + 1) arr 262 ∧ Row wr w.heap.size hA 238 ∧ Row wr (w.heap.size + 1) z 238 ∧ Turn no w wr) (fun c _ => 64 - (intOf c).toNat)
          case atStart => exact ⟨0, St.of ws, Nat.zero_le _, rfl, rfl, RV, hgv, hHv, hzv, Tv⟩
          case round =>
            clear RV hgv hHv hzv Tv lv
            obtain ⟨k, st, hk, rfl, hst, RV, hg, hH, hz, T⟩ := hrel
            by_cases hlt : k < 64
            · have hlt' : (k : Int) < 64 := by omega
              have cp := hg.cell k _ (hpi k hlt)
              have ck := (hl.turn T (fun q => q)) k hlt
              have hnx : rounds pl (St.of ws) (k + 1) = step st (ks.getD k 0) (pl.getD k 0) := by rw [rounds, ← hst]
              have hsg : IntKind.u32.signed = false := rfl
              clear hst hpi hcp hwg
              obtain ⟨a, b', c, d, e', f, g, h⟩ := st
              simp only at RV
              have v0 := RV.cell 0 _ rfl
              have v1 := RV.cell 1 _ rfl
              have v2 := RV.cell 2 _ rfl
              have v3 := RV.cell 3 _ rfl
              have v4 := RV.cell 4 _ rfl
              have v5 := RV.cell 5 _ rfl
              have v6 := RV.cell 6 _ rfl
              have v7 := RV.cell 7 _ rfl
              have fv := fun j => RV.frozen j
              generalize pl.getD k 0 = x at *
              generalize ks.getD k 0 = y at *
              go_wp2_with fail
              go_quiet ((first | (go_at_call 163; exact turnQ0 _ _ _ _ rfl)))
              go_wp2_with fail
              go_quiet (fail)
              go_wp2_with fail
              go_quiet ((first | (go_at_call 163; exact turnQ _ _ _ _ _ rfl)))
              go_wp2_with fail
              go_roundw
              case rel =>
                refine ⟨k + 1, step ⟨a, b', c, d, e', f, g, h⟩ y x, by omega, by go_num, hnx.symm, ?_, (((((((((hg.drewN _).other (by show q ≠ w.heap.size + 1 + 1; omega) _).other (by show q ≠ w.heap.size + 1 + 1; omega) _).other (by show q ≠ w.heap.size + 1 + 1; omega) _).other (by show q ≠ w.heap.size + 1 + 1; omega) _).other (by show q ≠ w.heap.size + 1 + 1; omega) _).other (by show q ≠ w.heap.size + 1 + 1; omega) _).other (by show q ≠ w.heap.size + 1 + 1; omega) _).other (by show q ≠ w.heap.size + 1 + 1; omega) _), (((((((((hH.drewN _).other (by show q ≠ w.heap.size; omega) _).other (by show q ≠ w.heap.size; omega) _).other (by show q ≠ w.heap.size; omega) _).other (by show q ≠ w.heap.size; omega) _).other (by show q ≠ w.heap.size; omega) _).other (by show q ≠ w.heap.size; omega) _).other (by show q ≠ w.heap.size; omega) _).other (by show q ≠ w.heap.size; omega) _), (((((((((hz.drewN _).other (by show q ≠ w.heap.size + 1; omega) _).other (by show q ≠ w.heap.size + 1; omega) _).other (by show q ≠ w.heap.size + 1; omega) _).other (by show q ≠ w.heap.size + 1; omega) _).other (by show q ≠ w.heap.size + 1; omega) _).other (by show q ≠ w.heap.size + 1; omega) _).other (by show q ≠ w.heap.size + 1; omega) _).other (by show q ≠ w.heap.size + 1; omega) _), (((((((((T.drewN _).setCell (fun r => by have r' : q < w.heap.size := r; omega) _).setCell (fun r => by have r' : q < w.heap.size := r; omega) _).setCell (fun r => by have r' : q < w.heap.size := r; omega) _).setCell (fun r => by have r' : q < w.heap.size := r; omega) _).setCell (fun r => by have r' : q < w.heap.size := r; omega) _).setCell (fun r => by have r' : q < w.heap.size := r; omega) _).setCell (fun r => by have r' : q < w.heap.size := r; omega) _).setCell (fun r => by have r' : q < w.heap.size := r; omega) _)⟩
                rw [step_eq]
                exact Row.set8 (RV.drewN _) _ _ _ _ _ _ _ _
              case measure => simp [intOf]; omega
            · have hlt' : ¬ (k : Int) < 64 := by omega
              have hk64 : k = 64 := by omega
              subst hk64
              rw [← hst] at hcp
              clear hst hpi
              go_wp2_with fail
              go_loopw [17] (fun i wr => ∃ (k : Nat) (ar : Array Value), k ≤ 8 ∧ i = .int .i64 k ∧ Row wr w.heap.size ar 238 ∧ ar.size = 8 ∧ (∀ j, j < k → ar[j]? = some (.int .u32 (cw.getD j 0))) ∧ (∀ j, k ≤ j → j < 8 → ar[j]? = some (.int .u32 (ws.getD j 0))) ∧ Row wr q #[.int .u32 st.a, .int .u32 st.b, .int .u32 st.c, .int .u32 st.d, .int .u32 st.e, .int .u32 st.f, .int .u32 st.g, .int .u32 st.h] 238 ∧ Row wr (w.heap.size + 1) z 238 ∧ Turn no w wr) (fun i _ => 8 - (intOf i).toNat)
              case atStart => exact ⟨0, hA, Nat.zero_le _, rfl, hH, hws, fun j r => by omega, fun j _ hj => hwg j hj, RV, hz, T⟩
              case round =>
                clear hg hH RV hz T hwg hws
                obtain ⟨k, ar, hk, rfl, hH, has, hd, ho, RV, hz, T⟩ := hrel
                by_cases hlt : k < 8
                · have hlt' : (k : Int) < 8 := by omega
                  have ch := hH.cell k _ (ho k (by omega) hlt)
                  have cv := RV.cell k _ (st_idx st k hlt)
                  have fh := hH.frozen k
                  have hck := hcp k hlt
                  generalize st.list.getD k 0 = x at *
                  generalize ws.getD k 0 = y at *
                  clear hcp
                  go_wp2_with fail
                  go_region
                  go_wp2_with fail
                  go_roundw
                  case rel =>
                    refine ⟨k + 1, _, by omega, by go_num, (hH.set k _).drew, by simpa using has, fun j hj => ?_, fun j h1 h2 => ?_, (RV.other (by show w.heap.size ≠ q; omega) _).drew, (hz.other (by show w.heap.size ≠ w.heap.size + 1; omega) _).drew, (T.setCell (fun r => by have r' : w.heap.size < w.heap.size := r; omega) _).drew⟩
                    · by_cases hjk : j = k
                      · subst hjk
                        rw [Array.getElem?_setIfInBounds_self_of_lt (by omega), hck]
                      · rw [Array.getElem?_setIfInBounds_ne (by omega)]
                        exact hd j (by omega)
                    · rw [Array.getElem?_setIfInBounds_ne (by omega)]
                      exact ho j (by omega) h2
                  case measure => simp [intOf]; omega
                · have hlt' : ¬ (k : Int) < 8 := by omega
                  have hk8 : k = 8 := by omega
                  subst hk8
                  have hwhole : ar = wv cw := by
                    apply Array.ext_getElem?
                    intro j
                    by_cases hj : j < 8
                    · rw [hd j hj]
                      simp [wv, show j < cw.length by omega]
                    · rw [Array.getElem?_eq_none (by omega), Array.getElem?_eq_none (by simp [wv]; omega)]
                  have HW : Hid (ar = wv cw) := hwhole
                  have h1' : ar.all (·.oneCell') = true := by rw [hwhole]; simp [wv, Value.oneCell']
                  have hi' : (Tryz.prog.info? 238).map (·.size) = some ar.size := by rw [has]; exact size25
                  clear hwhole hd ho hcp
                  go_wp2_with (first
                    | (refine wpList_load_row rfl 238 (.tmp 2) rfl w.heap.size rfl 238 ar (0, 0) _ hH Tryz.underlying238 rfl hi' ?_)
                    | (refine wpList_store_row rfl 238 (.tmp 4) (.tmp 222) rfl (w.heap.size + 1) ar rfl rfl 238 z hz hi' (by omega) h1' ?_))
                  refine bodyPost_ret (v := .agg ar) ?_ rfl ⟨by rw [HW.out, HC.out], T.setRow _ _ (fun r => by omega)⟩
                  exact results_cell_row (P := Tryz.prog) Tryz.results149 _ _ (w.heap.size + 1) 238 ar (0, 0) _ rfl (setRow_heap _ _ _ _ _ _ hz) Tryz.underlying238 rfl hi'
end Go.Proofs.YtgbcdjjnpadddaaGreatDoor


