/- Marks held against themselves; sameCert. -/
import Derived.Test.YtbhimedajfkioaaQ0
import Derived.Test.YtbhimedajfkioaaGf
namespace Go.Proofs.Ytbhimedajfkioaa
open Go.RowKit
set_option linter.unusedVariables false

theorem eqFields_self (w : World) (d : Nat) (xs : Array Value) : ∀ fs : List Field, (∀ f ∈ fs, ∃ v, (part f.type xs f.offset).run Try.prog w = .ok v w ∧ (Op.equalIn d f.type v v).run Try.prog w = .ok true w) → (Op.eqFields d xs xs fs).run Try.prog w = .ok true w
  | [], _ => by simp [Op.eqFields]
  | f :: fs, h => by
    obtain ⟨v, h1, h2⟩ := h f (by simp)
    have ih := eqFields_self w d xs fs (fun g hg => h g (by simp [hg]))
    simp only [Op.eqFields, Sem.run_bind, Sem.run_ite]
    split
    · simp only [h1, h2, Result.andThen_ok, Bool.not_true, Bool.false_eq_true, if_false]
      exact ih
    · exact ih
theorem fields50 : (Try.prog.fieldsOf 50).toList.map (fun f => (f.type, f.offset)) = [(3, 0), (25, 1), (48, 2)] := by kernel_rfl
theorem cell_part {t : TypeId} (w : World) {xs : Array Value} {o : Nat} {v : Value} (ha : (isAgg t).run Try.prog w = .ok false w) (h : xs[o]? = some v) : (part t xs o).run Try.prog w = .ok v w := by
  simp [part, ha, h]
theorem agg_part {t : TypeId} (w : World) {xs ys : Array Value} {o n : Nat} (ha : (isAgg t).run Try.prog w = .ok true w) (hs : (Try.prog.info? t).map (·.size) = some n) (h : xs.extract o (o + n) = ys) : (part t xs o).run Try.prog w = .ok (.agg ys) w := by
  cases hq : Try.prog.info? t with
  | none => simp [hq] at hs
  | some i =>
    have hi : i.size = n := by simpa [hq] using hs
    simp [part, ha, sizeOf, typeInfo, hq, hi, h]
theorem size48 : (Try.prog.info? 48).map (·.size) = some 16 := by kernel_rfl
def seL (s : Nat → Int) : List Value := [.int .u8 (s 0), .int .u8 (s 1), .int .u8 (s 2), .int .u8 (s 3), .int .u8 (s 4), .int .u8 (s 5), .int .u8 (s 6), .int .u8 (s 7), .int .u8 (s 8), .int .u8 (s 9), .int .u8 (s 10), .int .u8 (s 11), .int .u8 (s 12), .int .u8 (s 13), .int .u8 (s 14), .int .u8 (s 15)]
theorem seL_at (s : Nat → Int) (i : Nat) (h : i < 16) : (seL s)[i]? = some (.int .u8 (s i)) := by
  rcases i with _ | _ | _ | _ | _ | _ | _ | _ | _ | _ | _ | _ | _ | _ | _ | _ | i <;> first | rfl | omega
theorem eqItems_self (w : World) (d : Nat) (s : Nat → Int) : ∀ is : List Nat, (∀ i ∈ is, i < 16) → (Op.eqItems (d + 1) 5 1 (seL s).toArray (seL s).toArray is).run Try.prog w = .ok true w
  | [], _ => by simp [Op.eqItems]
  | i :: is, h => by
    have h1 := h i (by simp)
    have ih := eqItems_self w d s is (fun j hj => h j (by simp [hj]))
    have he := run_equalIn_int (P := Try.prog) w d 5 .u8 .u8 (s i) (s i) Try.underlying5
    have hp : (part 5 (seL s).toArray (i * 1)).run Try.prog w = .ok (.int .u8 (s i)) w := by
      refine cell_part w (by kernel_rfl) ?_
      rw [Nat.mul_one]
      simpa using seL_at s i h1
    simp only [Op.eqItems, Sem.run_bind, hp, Result.andThen_ok, he]
    simpa using ih
theorem eqIn48 (w : World) (d : Nat) (s : Nat → Int) : (Op.equalIn (d + 2) 48 (.agg (seL s).toArray) (.agg (seL s).toArray)).run Try.prog w = .ok true w := by
  obtain ⟨i, hi⟩ : ∃ i, Try.prog.info? 5 = some i := by
    cases hq : Try.prog.info? 5 with
    | none => have := size5; simp [hq] at this
    | some i => exact ⟨i, rfl⟩
  rw [run_equalIn_array w (d + 1) _ _ Try.underlying48 hi, cells5, eqItems_self w d s _ (fun j hj => by simp at hj; omega)]
theorem mkL_seal (m : Mk) : (mkL m).toArray.extract 2 (2 + 16) = (seL m.s).toArray := rfl
theorem eq50 (w : World) (m : Mk) : (Op.equalIn 10000 50 (.agg (mkL m).toArray) (.agg (mkL m).toArray)).run Try.prog w = .ok true w := by
  rw [run_equalIn_struct w 9999 50 _ _ (by kernel_rfl) (by kernel_rfl)]
  refine eqFields_self w 9999 _ _ (fun f hf => ?_)
  have hm : (f.type, f.offset) ∈ [(3, 0), (25, 1), (48, 2)] := by
    rw [← fields50]
    exact List.mem_map.2 ⟨f, hf, rfl⟩
  generalize f.type = t at *
  generalize f.offset = o at *
  simp only [List.mem_cons, Prod.mk.injEq, List.not_mem_nil, or_false] at hm
  rcases hm with ⟨rfl, rfl⟩ | ⟨rfl, rfl⟩ | ⟨rfl, rfl⟩
  · exact ⟨_, cell_part w (v := .int .i64 m.ix) (by kernel_rfl) (by simp [mkL]), by rw [run_equalIn_int w 9998 3 .i64 .i64 _ _ Try.underlying3]; simp⟩
  · exact ⟨_, cell_part w (v := .int .u64 m.tm) (by kernel_rfl) (by simp [mkL]), by rw [run_equalIn_int w 9998 25 .u64 .u64 _ _ Try.underlying25]; simp⟩
  · exact ⟨_, agg_part w (by kernel_rfl) size48 (mkL_seal m), eqIn48 w 9997 m.s⟩

set_option maxRecDepth 100000 in
set_option maxHeartbeats 8000000 in
theorem sameC11 (w : World) (h : Nat) (r : Int) (id : List UInt8) (hid : id.length = 32) (v u : Value) (l : List Mk) (hv : Ks w v l) (hu : Ks w u l) : Calls Try.prog 11 #[.agg (ctL h r id v).toArray, .agg (ctL h r id u).toArray] w fun e w' => e = .returned (.bool true) ∧ Turn no w w' := by
  obtain ⟨a, cap, rfl, hk⟩ := hv
  obtain ⟨a', cap', rfl, hk'⟩ := hu
  obtain ⟨n, hn⟩ : ∃ n, Hid (l.length = n) := ⟨_, rfl⟩
  have hn' : l.length = n := hn.out
  have hle : n ≤ 9223372036854775807 := by have := hk.le; have := hk.cap; simp only [maxLen] at this; omega
  rw [hn']
  obtain ⟨w0, hw0⟩ : ∃ w0, (w.alloc (.cells (ctL h r id (.slice a n cap)).toArray 30)).alloc (.cells (ctL h r id (.slice a' n cap')).toArray 30) = w0 := ⟨_, rfl⟩
  have T0 : Turn no w w0 := by rw [← hw0]; exact ((Turn.refl no w).alloc _).alloc _
  have B0 : Row w0 w.heap.size (ctL h r id (.slice a n cap)).toArray 30 := by rw [← hw0]; exact (Row.new w _ 30).alloc _
  have B1 : Row w0 (w.heap.size + 1) (ctL h r id (.slice a' n cap')).toArray 30 := by rw [← hw0]; exact Row.newAt _ _ _ _ (by simp)
  have hi27 : (Try.prog.info? 27).map (·.size) = some (id.map bv).length := by rw [List.length_map, hid]; exact size27
  have hE : ∀ W, (Op.equalIn 10000 27 (.agg (id.map bv).toArray) (.agg (id.map bv).toArray)).run Try.prog W = .ok true W := fun W => by rw [eqIn27 W 9998 id id hid hid]; simp
  have HY : Shut (∀ W, Turn no w0 W → W.cell? ⟨w.heap.size, 34, none⟩ = some (.slice a n cap) ∧ W.cell? ⟨w.heap.size + 1, 34, none⟩ = some (.slice a' n cap')) := fun W t => ⟨t.keep (B0.cell 34 _ (ctL_34 h r id hid _)) (fun q => q), t.keep (B1.cell 34 _ (ctL_34 h r id hid _)) (fun q => q)⟩
  have HT0 := shut T0
  have HK := shut hk
  have HK' := shut hk'
  have x0 := B0.cell 0 _ (ctL_0 h r id _)
  have x1 := B0.cell 1 _ (ctL_1 h r id _)
  have x2 : w0.rangeAt w.heap.size 2 (id.map bv) := fun j u hu => B0.cell (2 + j) _ (ctL_id h r id _ j u hu)
  have y0 := B1.cell 0 _ (ctL_0 h r id _)
  have y1 := B1.cell 1 _ (ctL_1 h r id _)
  have y2 : w0.rangeAt (w.heap.size + 1) 2 (id.map bv) := fun j u hu => B1.cell (2 + j) _ (ctL_id h r id _ j u hu)
  obtain ⟨x3, y3⟩ := HY.out w0 (Turn.refl no w0)
  clear hk hk' B0 B1 T0 hn' hid
  generalize (ctL h r id (.slice a n cap)).toArray = C0 at *
  generalize (ctL h r id (.slice a' n cap')).toArray = C1 at *
  generalize id.map bv = ib at *
  go_enter Try.func11, Try.ntmps11
  go_upto_region 1 with fail
  try rw [hw0]
  go_wp2_with (first | (refine wpList_load_midG (by rfl) 27 (.tmp 19) rfl w.heap.size 2 rfl ib _ x2 Try.underlying27 rfl hi27 ?_) | (refine wpList_load_midG (by rfl) 27 (.tmp 21) rfl (w.heap.size + 1) 2 rfl ib _ y2 Try.underlying27 rfl hi27 ?_))
  clear x0 x1 x2 x3 y0 y1 y2 y3 hw0 hE hi27
  go_loopw [5] (fun c wr => ∃ k : Nat, k ≤ n ∧ c = .int .i64 k ∧ Turn no w0 wr) (fun c _ => n - (intOf c).toNat)
  case atStart => exact ⟨0, by omega, rfl, Turn.refl _ _⟩
  case round =>
    obtain ⟨k, hk, rfl, T⟩ := hrel
    obtain ⟨y0, y1⟩ := HY.out wr T
    by_cases hlt : k < n
    · obtain ⟨m, hm⟩ : ∃ m, l[k]? = some m := ⟨l[k]'(by rw [hn.out]; exact hlt), List.getElem?_eq_getElem _⟩
      obtain ⟨b, off, rfl, c0⟩ := (HK.out.turn_no (HT0.out.then_no T)).range k m hm
      obtain ⟨b', off', rfl, d0⟩ := (HK'.out.turn_no (HT0.out.then_no T)).range k m hm
      have hlt' : (k : Int) < (n : Int) := by omega
      have hs := size50 m
      have hE := fun W => eq50 W m
      clear hm
      generalize mkL m = X at *
      have hs : (Try.prog.info? 50).map (·.size) = some X.length := hs
      have HY2 : Shut (∀ W, Turn no wr W → W.cell? ⟨w.heap.size, 34, none⟩ = some (.slice (some ⟨b, off, none⟩) n cap) ∧ W.cell? ⟨w.heap.size + 1, 34, none⟩ = some (.slice (some ⟨b', off', none⟩) n cap')) := fun W t => HY.out W (T.then_no t)
      have HC : Shut (∀ W, Turn no wr W → W.rangeAt b (off + k * 18) X ∧ W.rangeAt b' (off' + k * 18) X) := fun W t => ⟨fun i v hi => t.keep (c0 i v hi) (fun q => q), fun i v hi => t.keep (d0 i v hi) (fun q => q)⟩
      clear c0 d0
      go_wp2_with fail
      clear y0 y1
      refine wp_region_held_drew (S := fun W => Turn no wr W) (by kernel_rfl) (Turn.refl no wr).drew (fun hHeld => ?_)
      refine' wpAnyH_take (i := 0) (v := .pointer (some ⟨w.heap.size, 34, none⟩)) rfl (by kernel_rfl) (by kernel_rfl) (by kernel_rfl) (fun _ _ _ h => h) (Or.inl ⟨by kernel_rfl, fun W hW => ?y1⟩) hHeld ?r1
      · go_simp
      refine' wpAnyH_take (i := 1) (v := .slice (some ⟨b, off, none⟩) n cap) rfl (by kernel_rfl) (by kernel_rfl) (by kernel_rfl) (fun _ _ _ h => h) (Or.inl ⟨by kernel_rfl, fun W hW => ?y2⟩) hHeld ?r2
      · obtain ⟨y0, y1⟩ := HY2.out W hW
        go_simp
      refine' wpAnyH_take (i := 2) (v := .int .i64 k) rfl (by kernel_rfl) (by kernel_rfl) (by kernel_rfl) (fun _ _ _ h => h) (Or.inl ⟨by kernel_rfl, fun W hW => ?y3⟩) hHeld ?r3
      · go_simp
      refine' wpAnyH_take (i := 3) (v := .pointer (some ⟨b, off + k * 18, none⟩)) rfl (by kernel_rfl) (by kernel_rfl) (by kernel_rfl) (fun _ _ _ h => h) (Or.inl ⟨by kernel_rfl, fun W hW => ?y4⟩) hHeld ?r4
      · go_simp
      refine' wpAnyH_take (i := 4) (v := .agg X.toArray) rfl (by kernel_rfl) (by kernel_rfl) (by kernel_rfl) (fun _ _ _ h => h) (yieldsIf_load_mid (by kernel_rfl) 50 (.tmp 44) rfl b (off + k * 18) (by kernel_rfl) X _ (fun W h => (HC.out W h).1) Try.underlying50 rfl hs) hHeld ?s0
      refine' wpAnyH_take (i := 5) (v := .pointer (some ⟨w.heap.size + 1, 34, none⟩)) rfl (by kernel_rfl) (by kernel_rfl) (by kernel_rfl) (fun _ _ _ h => h) (Or.inl ⟨by kernel_rfl, fun W hW => ?y5⟩) hHeld ?r5
      · go_simp
      refine' wpAnyH_take (i := 6) (v := .slice (some ⟨b', off', none⟩) n cap') rfl (by kernel_rfl) (by kernel_rfl) (by kernel_rfl) (fun _ _ _ h => h) (Or.inl ⟨by kernel_rfl, fun W hW => ?y6⟩) hHeld ?r6
      · obtain ⟨y0, y1⟩ := HY2.out W hW
        go_simp
      refine' wpAnyH_take (i := 7) (v := .int .i64 k) rfl (by kernel_rfl) (by kernel_rfl) (by kernel_rfl) (fun _ _ _ h => h) (Or.inl ⟨by kernel_rfl, fun W hW => ?y7⟩) hHeld ?r7
      · go_simp
      refine' wpAnyH_take (i := 8) (v := .pointer (some ⟨b', off' + k * 18, none⟩)) rfl (by kernel_rfl) (by kernel_rfl) (by kernel_rfl) (fun _ _ _ h => h) (Or.inl ⟨by kernel_rfl, fun W hW => ?y8⟩) hHeld ?r8
      · go_simp
      refine' wpAnyH_take (i := 9) (v := .agg X.toArray) rfl (by kernel_rfl) (by kernel_rfl) (by kernel_rfl) (fun _ _ _ h => h) (yieldsIf_load_mid (by kernel_rfl) 50 (.tmp 49) rfl b' (off' + k * 18) (by kernel_rfl) X _ (fun W h => (HC.out W h).2) Try.underlying50 rfl hs) hHeld ?s1
      refine' wpAnyH_take (i := 10) (v := .bool false) rfl (by kernel_rfl) (by kernel_rfl) (by kernel_rfl) (fun _ _ _ h => h) (Or.inl ⟨by kernel_rfl, fun W hW => ?y9⟩) hHeld ?r9
      · go_simp
      refine wpAnyH_done (by kernel_rfl) ?_ _
      go_simp
      have HN := shut (T.then_no hHeld)
      clear hHeld HC HY2 hE
      go_wp2_with fail
      go_roundw
      case rel => exact ⟨k + 1, by omega, by go_num, HN.out⟩
      case measure => simp [intOf]; omega
    · have hkn : k = n := by omega
      subst hkn
      have hlt' : ¬ (k : Int) < (k : Int) := by omega
      go_wp2_with fail
      go_ret
      exact ⟨rfl, HT0.out.then_no T⟩
end Go.Proofs.Ytbhimedajfkioaa
