/- The reference's Of: the seal of an address and a message. -/
import Derived.Test.YtgbcdjjnpadddaaGreatDoorS8
import Derived.Test.YtgbcdjjnpadddaaGreatDoorEb
namespace Go.Proofs.YtgbcdjjnpadddaaGreatDoor
open Go.RowKit Go.Maps Go.MuLone
set_option linter.unusedVariables false

theorem adE_succ (a : UInt64) (k : Nat) (hk : k < 8) : (adE a).take (k + 1) = (adE a).take k ++ [adAt a k] := by
  rw [List.take_add_one]
  simp [adE, hk]

set_option maxRecDepth 100000 in
set_option maxHeartbeats 4000000 in
theorem of17 (w : World) (a : UInt64) (va : Value) (bs : List UInt8) (hb : Bs w va bs) (hl : Laid0 w) (h2 : 3 ≤ w.heap.size) (hsz : bs.length ≤ 1099511627776) :
    Calls Tryz.prog 88 #[.int .u64 a.toNat, va] w fun e w' => e = .returned (.agg (sealV a bs)) ∧ Turn no w w' := by
  have hrs := fun W v (b : Bs W v (adE a ++ bs)) (l : Laid0 W) h2 => rsum_all W v (adE a ++ bs) b l h2 (by simp [adE_len]; omega)
  have hvo := hv_one (adE a ++ bs)
  have hvi := hv_info (adE a ++ bs)
  have hvs := hv_size (adE a ++ bs)
  have hHe : hv (adE a ++ bs) = ((hashOf (adE a ++ bs)).map bv).toArray := rfl
  have hSe : sealV a bs = (((hashOf (adE a ++ bs)).take 16).map bv).toArray := rfl
  have hHl := hashOf_len (adE a ++ bs)
  rw [hHe] at hrs hvo hvi hvs
  rw [hSe]
  clear hHe hSe
  generalize hashOf (adE a ++ bs) = HL at *
  have hHg : ∀ j, j < 32 → (HL.map bv).toArray[j]? = some (bv (HL.getD j 0)) := fun j hj => by
    simp [List.getD_eq_getElem?_getD, show j < HL.length by omega]
  obtain ⟨HV, hHV⟩ : ∃ HV, HV = (HL.map bv).toArray := ⟨_, rfl⟩
  rw [← hHV] at hrs hvo hvi hvs hHg
  clear hHV
  have hSs : ((HL.take 16).map bv).toArray.size = 16 := by simp [hHl]
  have hSi : (Tryz.prog.info? 48).map (·.size) = some ((HL.take 16).map bv).toArray.size := by rw [hSs]; exact size33
  have hSo : ((HL.take 16).map bv).toArray.all (·.oneCell') = true := by
    rw [List.all_toArray]
    exact List.all_eq_true.2 (fun x hx => bv_one (HL.take 16) x hx)
  have hSg : Shut (∀ ar : Array Value, ar.size = 16 → (∀ j, j < 16 → ar[j]? = some (bv (HL.getD j 0))) → ar = ((HL.take 16).map bv).toArray) := fun ar hs h => by
    apply Array.ext_getElem?
    intro j
    by_cases hj : j < 16
    · rw [h j hj]
      simp [List.getD_eq_getElem?_getD, hj, show j < HL.length by omega]
    · rw [Array.getElem?_eq_none (by omega), Array.getElem?_eq_none (by omega)]
  obtain ⟨va', vc, hva⟩ := hb.slice
  subst hva
  go_enter Tryz.func88, Tryz.ntmps88
  go_wp2_with fail
  go_loopw [5, 6] (fun v i wr => ∃ c : Nat, c ≤ 8 ∧ i = .int .i64 (7 - (c : Int)) ∧ Own wr 5 v (((adE a).take c).map bv) ∧ (∀ g, v.ownBlock = some g → w.heap.size + 1 ≤ g) ∧ (∃ z, Row wr w.heap.size z 48 ∧ z.size = 16) ∧ Turn no w wr) (fun _ i _ => (intOf i + 1).toNat)
  case atStart => exact ⟨0, by omega, rfl, Own.nil _ _, fun g q => (by cases q), ⟨_, Row.new w _ _, rfl⟩, (Turn.refl no w).alloc _⟩
  case round =>
    obtain ⟨c, hc, rfl, O, f, ⟨z, Rz, hzs⟩, T⟩ := hrel
    obtain ⟨a5, c5, hv5⟩ := O.bs.slice
    have hL5 : ((adE a).take c).length = c := by simp [adE_len]; omega
    rw [hL5] at hv5
    have hOl : (((adE a).take c).map bv).length = c := by rw [List.length_map, hL5]
    subst hv5
    by_cases hlt : c < 8
    · have hlt' : (0 : Int) ≤ 7 - (c : Int) := by omega
      have hlt'' : (0 : Int) ≤ 8 * (7 - (c : Int)) := by omega
      have hlt3 : (c : Int) ≤ 7 := by omega
      have hl5 : ((adE a).take (c + 1)).length = c + 1 := by simp [adE_len]; omega
      have hbd : adAt a c = byteOf ((a.toNat : Int) / 2 ^ (8 * (7 - c))) := by
        unfold adAt
        rw [show 56 - 8 * c = 8 * (7 - c) by omega]
      clear hL5 hrs hHg hSg
      go_wp2_with (at_builtin; refine wpList_append_src rfl (.tmp 14) (.tmp 21) rfl Tryz.underlying124 Tryz.info5 rfl _ (((adE a).take c).map bv) rfl (O.turn_no ((Turn.refl no wr).alloc _)) _ 1 (List.map bv [byteOf ((a.toNat : Int) / 2 ^ (8 * (7 - c)))]) rfl ?src4 ?b4 ?m4 ?_)
      case src4 => exact src_byte Tryz.underlying124 wr _ _ (byteOf_val _).symm
      case b4 => rw [hOl]; omega
      case m4 => rw [hOl]; simp only [maxLen]; omega
      intro v6 w6 O6 G6 _
      have O6' : Own w6 5 v6 (((adE a).take (c + 1)).map bv) := by
        rw [adE_succ a c hlt, List.map_append, hbd, List.map_take]
        exact O6
      have f6 : ∀ g, v6.ownBlock = some g → w.heap.size + 1 ≤ g := fun g q => G6.fresh (B := w.heap.size + 1) f (by have := Rz.lt; simp; omega) g q
      have Rz6 := (Rz.alloc _).turn G6.turn (fun q => by have := f _ q; omega)
      have T6 : Turn no w w6 := (T.alloc _).fresh G6 (fun g q => by have := f g q; omega)
      obtain ⟨a6, c6, hv6⟩ := O6'.bs.slice
      rw [hl5] at hv6
      subst hv6
      clear O6 G6 O
      go_wp2_with fail
      go_roundw
      case rel => exact ⟨c + 1, by omega, by go_num, O6', f6, ⟨z, Rz6, hzs⟩, T6⟩
      case measure => simp [intOf]; omega
    · have hlt' : ¬ (0 : Int) ≤ 7 - (c : Int) := by omega
      have hc8 : c = 8 := by omega
      subst hc8
      rw [show (adE a).take 8 = adE a from List.take_of_length_le (by rw [adE_len]; omega)] at O hOl
      go_wp2_with (at_builtin; refine wpList_append_src rfl (.tmp 23) (.tmp 24) rfl Tryz.underlying124 Tryz.info5 rfl _ ((adE a).map bv) rfl O _ bs.length (bs.map bv) rfl ?src5 ?b5 ?m5 ?_)
      case src5 => exact (hb.turn_no T).src Tryz.underlying124
      case b5 => first | omega | (rw [hOl]; omega)
      case m5 => simp only [maxLen]; first | omega | (rw [hOl]; omega)
      intro v6 w6 O6 G6 _
      rw [← List.map_append] at O6
      have B6 := O6.bs
      have Rz6 := Rz.turn G6.turn (fun q => by have := f _ q; omega)
      have T6 : Turn no w w6 := T.fresh G6 (fun g q => by have := f g q; omega)
      have hs6 := hrs w6 v6 B6 (hl.turn T6 (fun q => q)) (by have := T6.size; omega)
      obtain ⟨a6, c6, hv6⟩ := B6.slice
      obtain ⟨L6, hL6⟩ : ∃ L, L = (adE a ++ bs).length := ⟨_, rfl⟩
      rw [← hL6] at hv6
      subst hv6
      clear O6 G6 O B6 Rz hrs hL6
      go_wp2_with fail
      refine hs6.mono ?_
      rintro e w7 ⟨rfl, t7⟩
      have Rz7 := Rz6.turn t7 (fun q => q)
      have T7 := T6.then_no t7
      go_wp2_with (refine wpList_store_row rfl 26 (.tmp 7) (.tmp 27) rfl w7.heap.size HV rfl rfl 26 _ (heap_alloc_new w7 _) hvi (by rw [hvs]; kernel_rfl) hvo ?_)
      rw [World.setRow_alloc_new]
      have R8 := Row.new w7 HV 26
      have T8 : Turn no w (w7.alloc (.cells HV 26)) := T7.alloc _
      have Rz8 := Rz7.alloc (.cells HV 26)
      have hq : (w7.alloc (.cells HV 26)).heap.size = w7.heap.size + 1 := by simp
      have hg8 : w.heap.size < w7.heap.size := Rz7.lt
      clear Rz7 Rz6 T7 T6
      generalize w7.alloc (.cells HV 26) = w8 at *
      generalize w7.heap.size = g7 at *
      go_wp2_with fail
      go_loopw [9] (fun c wr => ∃ (k : Nat) (ar : Array Value), k ≤ 16 ∧ c = .int .i64 k ∧ Row wr (g7 + 1) ar 48 ∧ ar.size = 16 ∧ (∀ j, j < k → ar[j]? = some (bv (HL.getD j 0))) ∧ Row wr g7 HV 26 ∧ Row wr w.heap.size z 48 ∧ Turn no w wr) (fun c _ => 16 - (intOf c).toNat)
      case atStart => exact ⟨0, _, Nat.zero_le _, rfl, Row.newAt _ _ _ _ hq.symm, rfl, fun j q => by omega, R8.alloc _, Rz8.alloc _, T8.alloc _⟩
      case round =>
        clear R8 Rz8 T8 T
        obtain ⟨k, ar, hk, rfl, Rn, has, han, R8, Rz8, T8⟩ := hrel
        by_cases hlt : k < 16
        · have hlt' : (k : Int) < 16 := by omega
          have hlt2 : (k : Int) < 32 := by omega
          have cn := Rn.cell k (ar[k]'(by omega)) (by simp [has, hlt])
          have fn := Rn.frozen k
          have ch : wr.cell? ⟨g7, k, none⟩ = some (.int .u8 ((HL.getD k 0).toNat : Int)) := R8.cell k _ (hHg k (by omega))
          have hbk : bv (HL.getD k 0) = .int .u8 ((HL.getD k 0).toNat : Int) := rfl
          clear hHg hSg hSo hSi
          go_wp2_with fail
          go_roundw
          case rel =>
            refine ⟨k + 1, _, by omega, by go_num, Rn.set k _, by simpa using has, fun j hj => ?_, R8.other (by show g7 + 1 ≠ g7; omega) _, Rz8.other (by show g7 + 1 ≠ w.heap.size; omega) _, T8.setCell (fun q => by have q' : g7 + 1 < w.heap.size := q; omega) _⟩
            by_cases hjk : j = k
            · subst hjk
              rw [Array.getElem?_setIfInBounds_self_of_lt (by omega), hbk, List.getD_eq_getElem?_getD]
            · rw [Array.getElem?_setIfInBounds_ne (by omega)]
              exact han j (by omega)
          case measure => simp [intOf]; omega
        · have hlt' : ¬ (k : Int) < 16 := by omega
          have hk16 : k = 16 := by omega
          subst hk16
          obtain rfl := hSg.out ar has han
          clear han hHg hSg
          generalize hSV : ((HL.take 16).map bv).toArray = SV at *
          go_wp2_with (first | (refine wpList_load_row rfl 48 (.tmp 8) rfl (g7 + 1) rfl 48 SV (0, 0) _ Rn Tryz.underlying48 rfl hSi ?_) | (refine wpList_store_row rfl 48 (.tmp 4) (.tmp 37) rfl w.heap.size SV rfl rfl 48 z Rz8 hSi (by omega) hSo ?_))
          have hz' : (wr.setRow w.heap.size SV).heap[w.heap.size]? = some (.cells SV 48 (0, 0)) := setRow_heap _ _ _ _ _ _ Rz8
          refine bodyPost_ret (v := .agg SV) ?_ rfl ⟨by rw [← hSV, List.map_take], T8.setRow _ _ (fun q => by omega)⟩
          exact results_cell_row (P := Tryz.prog) Tryz.results88 _ _ w.heap.size 48 SV (0, 0) _ rfl hz' Tryz.underlying48 rfl hSi
end Go.Proofs.YtgbcdjjnpadddaaGreatDoor


