/- A witness in memory; topOf. -/
import Derived.Test.YtlacfenenbblaaaGreatDoorY1
import Derived.Test.YtlacfenenbblaaaGreatDoorJa
import Derived.Test.YtlacfenenbblaaaGreatDoorLa
namespace Go.Proofs.YtlacfenenbblaaaGreatDoor
open Go.RowKit
set_option linter.unusedVariables false

/-- A proof: of how many, of which, the way. -/
structure Pf where
  t : Int
  i : Int
  A : List (List UInt8)
def pfC (q : Pf) (a : Option Addr) (cap : Nat) : List Value := [.int .i64 q.t, .int .i64 q.i, .slice a q.A.length cap]
/-- A list of proofs, wherever it lies. -/
structure QsAt (w : World) (a : Option Addr) (cap : Nat) (l : List Pf) : Prop where
  le : l.length ≤ cap
  cap : cap ≤ maxLen
  cells : ∀ (j : Nat) q, l[j]? = some q → ∃ b off a' c', a = some ⟨b, off, none⟩ ∧ HsAt w a' c' q.A ∧ w.rangeAt b (off + j * 3) (pfC q a' c')
def Qs (w : World) (v : Value) (l : List Pf) : Prop := ∃ a cap, v = .slice a l.length cap ∧ QsAt w a cap l
theorem QsAt.turn_no {w w' : World} {a : Option Addr} {cap : Nat} {l : List Pf} (h : QsAt w a cap l) (t : Turn no w w') : QsAt w' a cap l :=
  ⟨h.le, h.cap, fun j q hj => by
    obtain ⟨b, off, a', c', e, hs, r⟩ := h.cells j q hj
    exact ⟨b, off, a', c', e, hs.turn_no t, fun i u hu => t.keep (r i u hu) (fun q => q)⟩⟩
theorem AsAt.range {w : World} {a : Option Addr} {cap : Nat} {l : List Ac} (h : AsAt w a cap l) (j : Nat) (m : Ac) (hj : l[j]? = some m) : ∃ b off, a = some ⟨b, off, none⟩ ∧ w.rangeAt b (off + j * 5) (acs m) := by
  obtain ⟨b, off, e, c0, c1, c2, c3, c4⟩ := h.cells j m hj
  refine ⟨b, off, e, fun i u hu => ?_⟩
  rcases i with _ | _ | _ | _ | _ | i
  · simp [acs] at hu; subst hu; exact c0
  · simp [acs] at hu; subst hu; exact c1
  · simp [acs] at hu; subst hu; exact c2
  · simp [acs] at hu; subst hu; exact c3
  · simp [acs] at hu; subst hu; exact c4
  · simp [acs] at hu
/-- A witness's cells: what lies under the rest, the accounts, the proofs. -/
def wtL (R : List UInt8) (va vp : Value) : List Value := R.map bv ++ [va, vp]
theorem wtL_len {R : List UInt8} (hR : R.length = 32) (va vp : Value) : (wtL R va vp).length = 34 := by simp [wtL, hR]
theorem wtL_R (R : List UInt8) (va vp : Value) (j : Nat) (u : Value) (hu : (R.map bv)[j]? = some u) : (wtL R va vp).toArray[0 + j]? = some u := by
  rw [List.getElem?_toArray, Nat.zero_add, wtL, List.getElem?_append_left (List.getElem?_eq_some_iff.1 hu).1]
  exact hu
theorem wtL_32 {R : List UInt8} (hR : R.length = 32) (va vp : Value) : (wtL R va vp).toArray[(32 : Nat)]? = some va := by
  rw [List.getElem?_toArray, wtL, List.getElem?_append_right (by simp [hR])]
  simp [hR]
theorem wtL_33 {R : List UInt8} (hR : R.length = 32) (va vp : Value) : (wtL R va vp).toArray[(33 : Nat)]? = some vp := by
  rw [List.getElem?_toArray, wtL, List.getElem?_append_right (by simp [hR])]
  simp [hR]
/-- The two under the root. -/
def inH (X R : List UInt8) : List UInt8 := hashOf (1 :: (X ++ R))
def tpE (X R : List UInt8) (q : Pf) (m : Ac) : Int := if pathE q.t q.i q.A.length 33 = 0 then (if (inH (pathH q.t q.i q.A (formB m)) R == X) = true then 0 else 21) else pathE q.t q.i q.A.length 33
def tpH (X R : List UInt8) (q : Pf) (m : Ac) : List UInt8 := if tpE X R q m = 0 then pathH q.t q.i q.A (formB m) else z32
theorem tpH_len (X R : List UInt8) (q : Pf) (m : Ac) : (tpH X R q m).length = 32 := by
  unfold tpH
  split
  · exact pathH_len _ _ _ _
  · rfl
theorem size57 : (Tryz.prog.info? 47).map (·.size) = some 3 := by kernel_rfl
theorem size32a : (Tryz.prog.info? 38).map (·.size) = some 5 := by kernel_rfl
theorem size29w : (Tryz.prog.info? 32).map (·.size) = some 34 := by kernel_rfl
set_option maxRecDepth 100000 in
set_option maxHeartbeats 8000000 in
theorem topOf29 (w : World) (hl : Laid1 w) (h2 : 2 ≤ w.heap.size) (X R : List UInt8) (hX : X.length = 32) (hR : R.length = 32) (va vp : Value) (m : Ac) (l : List Ac) (q : Pf) (qs : List Pf) (ha : As w va (m :: l)) (hq : Qs w vp (q :: qs)) :
    Calls Tryz.prog 64 #[.agg (hb32 X), .agg (wtL R va vp).toArray] w fun e w' => e = .returned (.tuple #[.agg (hb32 (tpH X R q m)), .int .i64 (tpE X R q m)]) ∧ Turn no w w' := by
  obtain ⟨a, ca, rfl, hA⟩ := ha
  obtain ⟨p, cp, rfl, hQ⟩ := hq
  have HO : Shut m.ok := hA.ok m (by simp)
  obtain ⟨ab, ao, rfl, ra⟩ := hA.range 0 m rfl
  obtain ⟨pb, po, a', c', e1, hs, rp⟩ := hQ.cells 0 q rfl
  cases e1
  rw [Nat.zero_mul, Nat.add_zero] at ra rp
  obtain ⟨na, hna⟩ : ∃ n, Hid ((m :: l).length = n) := ⟨_, rfl⟩
  obtain ⟨np, hnp⟩ : ∃ n, Hid ((q :: qs).length = n) := ⟨_, rfl⟩
  have na0 : 0 < na := by rw [← hna.out]; simp
  have np0 : 0 < np := by rw [← hnp.out]; simp
  have nal : na ≤ 9223372036854775807 := by have := hA.le; have := hA.cap; have := hna.out; simp only [maxLen] at *; omega
  have npl : np ≤ 9223372036854775807 := by have := hQ.le; have := hQ.cap; have := hnp.out; simp only [maxLen] at *; omega
  rw [hna.out, hnp.out]
  have lW := wtL_len hR (.slice (some ⟨ab, ao, none⟩) na ca) (.slice (some ⟨pb, po, none⟩) np cp)
  obtain ⟨w0, hw0⟩ : ∃ w0, ((w.alloc (.cells (hb32 X) 29)).alloc (.cells (wtL R (.slice (some ⟨ab, ao, none⟩) na ca) (.slice (some ⟨pb, po, none⟩) np cp)).toArray 32)).alloc (.cells (hb32 z32) 29) = w0 := ⟨_, rfl⟩
  have T0 : Turn no w w0 := by rw [← hw0]; exact (((Turn.refl no w).alloc _).alloc _).alloc _
  have RX : Row w0 w.heap.size (hb32 X) 29 := by rw [← hw0]; exact ((Row.new w _ 29).alloc _).alloc _
  have RW : Row w0 (w.heap.size + 1) (wtL R (.slice (some ⟨ab, ao, none⟩) na ca) (.slice (some ⟨pb, po, none⟩) np cp)).toArray 32 := by rw [← hw0]; exact (Row.newAt _ _ _ _ (by simp)).alloc _
  have RZ : Row w0 (w.heap.size + 2) (hb32 z32) 29 := by rw [← hw0]; exact Row.newAt _ _ _ _ (by simp)
  have HC : Shut (∀ W, Turn no w0 W → W.cell? ⟨w.heap.size + 1, 32, none⟩ = some (.slice (some ⟨ab, ao, none⟩) na ca) ∧ W.cell? ⟨w.heap.size + 1, 33, none⟩ = some (.slice (some ⟨pb, po, none⟩) np cp) ∧ W.rangeAt (w.heap.size + 1) 0 (R.map bv) ∧ W.rangeAt w.heap.size 0 (X.map bv) ∧ W.rangeAt pb po (pfC q a' c') ∧ W.rangeAt ab ao (acs m)) := fun W t =>
    ⟨t.keep (RW.cell 32 _ (wtL_32 hR _ _)) (fun q => q), t.keep (RW.cell 33 _ (wtL_33 hR _ _)) (fun q => q), fun j u hu => t.keep (RW.cell (0 + j) _ (wtL_R R _ _ j u hu)) (fun q => q), fun j u hu => by rw [Nat.zero_add]; exact t.keep (RX.cell j _ (by simpa [hb32] using hu)) (fun q => q), fun j u hu => (T0.then_no t).keep (rp j u hu) (fun q => q), fun j u hu => (T0.then_no t).keep (ra j u hu) (fun q => q)⟩
  have hlw : ∀ W, Turn no w0 W → Laid1 W ∧ 2 ≤ W.heap.size := fun W t => ⟨hl.turn (T0.then_no t) (fun q => q), by have := (T0.then_no t).size; omega⟩
  have HP : Shut (∀ W v, Turn no w0 W → Bs W v (formB m) → Calls Tryz.prog 90 #[.agg (pfC q a' c').toArray, v] W fun e w' => e = .returned (.tuple #[.agg (hb32 (pathH q.t q.i q.A (formB m))), .int .i64 (pathE q.t q.i q.A.length 33)]) ∧ Turn no W w') := fun W v t hb => by
    have := path25 W q.t q.i q.A a' c' (hs.turn_no (T0.then_no t)) v (formB m) hb (hlw W t).1 (hlw W t).2
    rw [formB_len] at this
    exact this
  have lP := pathH_len q.t q.i q.A (formB m)
  have HI : Shut (∀ W, Turn no w0 W → Calls Tryz.prog 26 #[.agg (hb32 (pathH q.t q.i q.A (formB m))), .agg (hb32 R)] W fun e w' => e = .returned (.agg (hb32 (inH (pathH q.t q.i q.A (formB m)) R))) ∧ Turn no W w') := fun W t => inner13 W _ R lP hR (hlw W t).1 (hlw W t).2
  have lI : (inH (pathH q.t q.i q.A (formB m)) R).length = 32 := hashOf_len _
  have HQ : Shut (∀ W, (Op.equalIn 10000 29 (.agg (hb32 (inH (pathH q.t q.i q.A (formB m)) R))) (.agg (hb32 X))).run Tryz.prog W = .ok (inH (pathH q.t q.i q.A (formB m)) R == X) W) := fun W => eqIn35 W _ _ lI hX
  have HE : Shut (tpE X R q m = if pathE q.t q.i q.A.length 33 = 0 then (if (inH (pathH q.t q.i q.A (formB m)) R == X) = true then 0 else 21) else pathE q.t q.i q.A.length 33) := rfl
  have HH : Shut (hb32 (tpH X R q m) = if tpE X R q m = 0 then hb32 (pathH q.t q.i q.A (formB m)) else hb32 z32) := by
    show _ = _
    unfold tpH
    split <;> rfl
  have sZ := hb32_size z32_len
  have oZ := hb32_one z32
  have iZ := hb32_info z32_len
  have sP := hb32_size lP
  have oP := hb32_one (pathH q.t q.i q.A (formB m))
  have iP := hb32_info lP
  have HPR : Shut ((hb32 (pathH q.t q.i q.A (formB m))) = ((pathH q.t q.i q.A (formB m)).map bv).toArray ∧ (Tryz.prog.info? 29).map (·.size) = some ((pathH q.t q.i q.A (formB m)).map bv).length) := ⟨rfl, by rw [List.length_map, lP]; exact size35⟩
  have iX : (Tryz.prog.info? 29).map (·.size) = some (X.map bv).length := by rw [List.length_map, hX]; exact size35
  have iR : (Tryz.prog.info? 29).map (·.size) = some (R.map bv).length := by rw [List.length_map, hR]; exact size35
  have HXR : Shut (hb32 X = (X.map bv).toArray ∧ hb32 R = (R.map bv).toArray) := ⟨rfl, rfl⟩
  have sZP : (hb32 z32).size = (hb32 (pathH q.t q.i q.A (formB m))).size := by rw [sZ, sP]
  have zP : (Tryz.prog.info? 47).map (·.size) = some (pfC q a' c').length := size57
  have zM : (Tryz.prog.info? 38).map (·.size) = some (acs m).length := size32a
  have hzv := zero35v
  have hbd := shut bld35
  have HRZ := shut RZ
  have HT0 := shut T0
  have F31 := shut (fun W => form31 W m HO.out)
  clear hs rp ra hA hQ hl h2 RX RW RZ T0 hlw lP lI lW hX hR sP sZ
  generalize tpE X R q m = TE at *
  generalize hb32 (tpH X R q m) = TH at *
  generalize (inH (pathH q.t q.i q.A (formB m)) R == X) = bb at *
  generalize hb32 (inH (pathH q.t q.i q.A (formB m)) R) = IH at *
  generalize hb32 (pathH q.t q.i q.A (formB m)) = PH at *
  generalize (pathH q.t q.i q.A (formB m)).map bv = PHl at *
  generalize pathE q.t q.i q.A.length 33 = pe at *
  generalize hb32 z32 = Z at *
  generalize hb32 X = XA at *
  generalize hb32 R = RA at *
  generalize X.map bv = XL at *
  generalize R.map bv = RL at *
  generalize pfC q a' c' = PL at *
  generalize acs m = ML at *
  obtain ⟨P0, hP0⟩ : ∃ A, PL.toArray = A := ⟨_, rfl⟩
  obtain ⟨M0, hM0⟩ : ∃ A, ML.toArray = A := ⟨_, rfl⟩
  rw [hP0] at HP
  rw [hM0] at F31
  have HPL := shut hP0
  have HML := shut hM0
  clear hP0 hM0
  generalize (wtL R (.slice (some ⟨ab, ao, none⟩) na ca) (.slice (some ⟨pb, po, none⟩) np cp)).toArray = WA at *
  go_enter Tryz.func64, Tryz.ntmps64
  go_upto_region 1 with fail
  try rw [hw0]
  clear hw0
  go_cut [6, 7] from 8 to 20 (fun x y wx => ∃ g, x = .pointer (some ⟨g, 0, none⟩) ∧ y = .int .i64 pe ∧ Shut (Row wx g PH 29 ∧ Turn no w0 wx))
  case first =>
    refine wp_region_held_drew (S := fun W => Turn no w0 W) (by kernel_rfl) (Turn.refl no w0).drew (fun hHeld => ?_)
    refine' wpAnyH_take (i := 0) (v := .pointer (some ⟨w.heap.size + 1, 33, none⟩)) rfl (by kernel_rfl) (by kernel_rfl) (by kernel_rfl) (fun _ _ _ h => h) (Or.inl ⟨by kernel_rfl, fun W hW => ?y1⟩) hHeld ?r1
    · go_simp
    refine' wpAnyH_take (i := 1) (v := .slice (some ⟨pb, po, none⟩) np cp) rfl (by kernel_rfl) (by kernel_rfl) (by kernel_rfl) (fun _ _ _ h => h) (Or.inl ⟨by kernel_rfl, fun W hW => ?y2⟩) hHeld ?r2
    · obtain ⟨y0, y1, _⟩ := HC.out W hW
      go_simp
    refine' wpAnyH_take (i := 2) (v := .pointer (some ⟨pb, po, none⟩)) rfl (by kernel_rfl) (by kernel_rfl) (by kernel_rfl) (fun _ _ _ h => h) (Or.inl ⟨by kernel_rfl, fun W hW => ?y3⟩) hHeld ?r3
    · go_simp
    refine' wpAnyH_take (i := 3) (v := .agg P0) rfl (by kernel_rfl) (by kernel_rfl) (by kernel_rfl) (fun _ _ _ h => h) (by rw [← HPL.out]; exact yieldsIf_load_mid (by kernel_rfl) 47 (.tmp 11) rfl pb (po) (by kernel_rfl) PL _ (fun W h => (HC.out W h).2.2.2.2.1) Tryz.underlying47 rfl zP) hHeld ?s3
    refine' wpAnyH_take (i := 4) (v := .pointer (some ⟨w.heap.size + 1, 32, none⟩)) rfl (by kernel_rfl) (by kernel_rfl) (by kernel_rfl) (fun _ _ _ h => h) (Or.inl ⟨by kernel_rfl, fun W hW => ?y4⟩) hHeld ?r4
    · go_simp
    refine' wpAnyH_take (i := 5) (v := .slice (some ⟨ab, ao, none⟩) na ca) rfl (by kernel_rfl) (by kernel_rfl) (by kernel_rfl) (fun _ _ _ h => h) (Or.inl ⟨by kernel_rfl, fun W hW => ?y5⟩) hHeld ?r5
    · obtain ⟨y0, y1, _⟩ := HC.out W hW
      go_simp
    refine' wpAnyH_take (i := 6) (v := .pointer (some ⟨ab, ao, none⟩)) rfl (by kernel_rfl) (by kernel_rfl) (by kernel_rfl) (fun _ _ _ h => h) (Or.inl ⟨by kernel_rfl, fun W hW => ?y6⟩) hHeld ?r6
    · go_simp
    refine' wpAnyH_take (i := 7) (v := .agg M0) rfl (by kernel_rfl) (by kernel_rfl) (by kernel_rfl) (fun _ _ _ h => h) (by rw [← HML.out]; exact yieldsIf_load_mid (by kernel_rfl) 38 (.tmp 15) rfl ab (ao) (by kernel_rfl) ML _ (fun W h => (HC.out W h).2.2.2.2.2) Tryz.underlying38 rfl zM) hHeld ?s7
    obtain ⟨X0, hX0⟩ : ∃ X, w0.drew = X := ⟨_, rfl⟩
    rw [hX0] at hHeld ⊢
    clear hX0
    refine wpAnyH_ready (rs := [8, 13]) (by kernel_rfl) (by simp) ?_
    refine AllReadyH.cons rfl (fun K hK => ?_) (AllReadyH.cons rfl (fun K hK => ?_) AllReadyH.nil)
    · skip
      go_simp
      refine (F31.out _).mono ?_
      rintro e X1 ⟨v1, rfl, F1⟩
      have O1 := F1.own.bs
      obtain ⟨a1, l1, c1, rfl⟩ := F1.form
      refine hK.out _ _ (hHeld.then_no F1.turn) (fun hHeld => ?_)
      clear hK
      have O8 := O1
      refine wpAnyH_ready (rs := [9, 13]) (by kernel_rfl) (by simp) ?_
      refine AllReadyH.cons rfl (fun K hK => ?_) (AllReadyH.cons rfl (fun K hK => ?_) AllReadyH.nil)
      · skip
        go_simp
        refine (HP.out _ _ hHeld O8).mono ?_
        rintro e X2 ⟨rfl, t2⟩
        refine hK.out _ _ (hHeld.then_no t2) (fun hHeld => ?_)
        clear hK
        have O8 := O8.turn_no t2
        refine' wpAnyH_take (i := 10) (v := .tuple #[.agg PH, .int .i64 pe]) rfl (by kernel_rfl) (by kernel_rfl) (by kernel_rfl) (fun _ _ _ h => h) (Or.inl ⟨by kernel_rfl, fun W hW => ?y7⟩) hHeld ?r7
        · go_simp
        refine' wpAnyH_take (i := 11) (v := .agg PH) rfl (by kernel_rfl) (by kernel_rfl) (by kernel_rfl) (fun _ _ _ h => h) (Or.inl ⟨by kernel_rfl, fun W hW => ?y8⟩) hHeld ?r8
        · go_simp
        refine' wpAnyH_take (i := 12) (v := .int .i64 pe) rfl (by kernel_rfl) (by kernel_rfl) (by kernel_rfl) (fun _ _ _ h => h) (Or.inl ⟨by kernel_rfl, fun W hW => ?y9⟩) hHeld ?r9
        · go_simp
        refine wpAnyH_ready (rs := [13]) (by kernel_rfl) (by simp) ?_
        refine AllReadyH.cons rfl (fun K hK => ?_) AllReadyH.nil
        go_simp
        have hs3 := hHeld.size
        refine hK.out _ _ (hHeld.alloc _) (fun hHeld => ?_)
        clear hK
        obtain ⟨X3, hX3⟩ : ∃ X, X2.alloc (.cells Z 29) = X := ⟨_, rfl⟩
        have r3 : Row X3 X2.heap.size Z 29 := by rw [← hX3]; exact Row.new X2 _ _
        have O8 := O8.turn_no ((Turn.refl no X2).alloc (.cells Z 29))
        rw [hX3] at O8
        rw [hX3] at hHeld ⊢
        clear hX3
        generalize X2.heap.size = g3 at *
        refine wpAnyH_ready (rs := [14]) (by kernel_rfl) (by simp) ?_
        refine AllReadyH.cons rfl (fun K hK => ?_) AllReadyH.nil
        rw [if_pos (by rfl)]
        refine wp_store_row 29 _ _ rfl g3 PH rfl rfl 29 Z r3 iP sZP oP ?_
        have r3 : Row (X3.setRow g3 PH) g3 PH 29 := setRow_heap X3 g3 _ PH 29 _ r3
        have T4 : Turn no w0 (X3.setRow g3 PH) := hHeld.setRow g3 PH (fun q => by omega)
        refine hK.out _ _ T4 (fun hHeld => ?_)
        clear hK
        clear T4
        obtain ⟨Y4, hY4⟩ : ∃ X, X3.setRow g3 PH = X := ⟨_, rfl⟩
        rw [hY4] at r3 hHeld ⊢
        clear hY4
        refine' wpAnyH_take (i := 15) (v := .int .i64 pe) rfl (by kernel_rfl) (by kernel_rfl) (by kernel_rfl) (fun _ _ _ h => h) (Or.inl ⟨by kernel_rfl, fun W hW => ?y10⟩) hHeld ?r10
        · go_simp
        refine wpAnyH_done (by kernel_rfl) ?_ _
        go_simp
        go_wp2_with fail
        go_meet
        case rel => exact ⟨g3, rfl, rfl, ⟨r3, hHeld⟩⟩
      · skip
        go_simp
        have hs5 := hHeld.size
        refine hK.out _ _ (hHeld.alloc _) (fun hHeld => ?_)
        clear hK
        obtain ⟨X5, hX5⟩ : ∃ X, X1.alloc (.cells Z 29) = X := ⟨_, rfl⟩
        have r5 : Row X5 X1.heap.size Z 29 := by rw [← hX5]; exact Row.new X1 _ _
        have O8 := O8.turn_no ((Turn.refl no X1).alloc (.cells Z 29))
        rw [hX5] at O8
        rw [hX5] at hHeld ⊢
        clear hX5
        generalize X1.heap.size = g5 at *
        refine wpAnyH_ready (rs := [9]) (by kernel_rfl) (by simp) ?_
        refine AllReadyH.cons rfl (fun K hK => ?_) AllReadyH.nil
        go_simp
        refine (HP.out _ _ hHeld O8).mono ?_
        rintro e X6 ⟨rfl, t6⟩
        refine hK.out _ _ (hHeld.then_no t6) (fun hHeld => ?_)
        clear hK
        have r5 := Row.turn r5 t6 (fun q => q)
        have O8 := O8.turn_no t6
        refine' wpAnyH_take (i := 10) (v := .tuple #[.agg PH, .int .i64 pe]) rfl (by kernel_rfl) (by kernel_rfl) (by kernel_rfl) (fun _ _ _ h => h) (Or.inl ⟨by kernel_rfl, fun W hW => ?y11⟩) hHeld ?r11
        · go_simp
        refine' wpAnyH_take (i := 11) (v := .agg PH) rfl (by kernel_rfl) (by kernel_rfl) (by kernel_rfl) (fun _ _ _ h => h) (Or.inl ⟨by kernel_rfl, fun W hW => ?y12⟩) hHeld ?r12
        · go_simp
        refine' wpAnyH_take (i := 12) (v := .int .i64 pe) rfl (by kernel_rfl) (by kernel_rfl) (by kernel_rfl) (fun _ _ _ h => h) (Or.inl ⟨by kernel_rfl, fun W hW => ?y13⟩) hHeld ?r13
        · go_simp
        refine wpAnyH_ready (rs := [14]) (by kernel_rfl) (by simp) ?_
        refine AllReadyH.cons rfl (fun K hK => ?_) AllReadyH.nil
        rw [if_pos (by rfl)]
        refine wp_store_row 29 _ _ rfl g5 PH rfl rfl 29 Z r5 iP sZP oP ?_
        have r5 : Row (X6.setRow g5 PH) g5 PH 29 := setRow_heap X6 g5 _ PH 29 _ r5
        have T7 : Turn no w0 (X6.setRow g5 PH) := hHeld.setRow g5 PH (fun q => by omega)
        refine hK.out _ _ T7 (fun hHeld => ?_)
        clear hK
        clear T7
        obtain ⟨Y7, hY7⟩ : ∃ X, X6.setRow g5 PH = X := ⟨_, rfl⟩
        rw [hY7] at r5 hHeld ⊢
        clear hY7
        refine' wpAnyH_take (i := 15) (v := .int .i64 pe) rfl (by kernel_rfl) (by kernel_rfl) (by kernel_rfl) (fun _ _ _ h => h) (Or.inl ⟨by kernel_rfl, fun W hW => ?y14⟩) hHeld ?r14
        · go_simp
        refine wpAnyH_done (by kernel_rfl) ?_ _
        go_simp
        go_wp2_with fail
        go_meet
        case rel => exact ⟨g5, rfl, rfl, ⟨r5, hHeld⟩⟩
    · skip
      go_simp
      have hs8 := hHeld.size
      refine hK.out _ _ (hHeld.alloc _) (fun hHeld => ?_)
      clear hK
      obtain ⟨X8, hX8⟩ : ∃ X, X0.alloc (.cells Z 29) = X := ⟨_, rfl⟩
      have r8 : Row X8 X0.heap.size Z 29 := by rw [← hX8]; exact Row.new X0 _ _
      rw [hX8] at hHeld ⊢
      clear hX8
      generalize X0.heap.size = g8 at *
      refine wpAnyH_ready (rs := [8]) (by kernel_rfl) (by simp) ?_
      refine AllReadyH.cons rfl (fun K hK => ?_) AllReadyH.nil
      go_simp
      refine (F31.out _).mono ?_
      rintro e X9 ⟨v9, rfl, F9⟩
      have O9 := F9.own.bs
      obtain ⟨a9, l9, c9, rfl⟩ := F9.form
      refine hK.out _ _ (hHeld.then_no F9.turn) (fun hHeld => ?_)
      clear hK
      have r8 := Row.turn r8 F9.turn (fun q => q)
      have O8 := O9
      refine wpAnyH_ready (rs := [9]) (by kernel_rfl) (by simp) ?_
      refine AllReadyH.cons rfl (fun K hK => ?_) AllReadyH.nil
      go_simp
      refine (HP.out _ _ hHeld O8).mono ?_
      rintro e X10 ⟨rfl, t10⟩
      refine hK.out _ _ (hHeld.then_no t10) (fun hHeld => ?_)
      clear hK
      have r8 := Row.turn r8 t10 (fun q => q)
      have O8 := O8.turn_no t10
      refine' wpAnyH_take (i := 10) (v := .tuple #[.agg PH, .int .i64 pe]) rfl (by kernel_rfl) (by kernel_rfl) (by kernel_rfl) (fun _ _ _ h => h) (Or.inl ⟨by kernel_rfl, fun W hW => ?y15⟩) hHeld ?r15
      · go_simp
      refine' wpAnyH_take (i := 11) (v := .agg PH) rfl (by kernel_rfl) (by kernel_rfl) (by kernel_rfl) (fun _ _ _ h => h) (Or.inl ⟨by kernel_rfl, fun W hW => ?y16⟩) hHeld ?r16
      · go_simp
      refine' wpAnyH_take (i := 12) (v := .int .i64 pe) rfl (by kernel_rfl) (by kernel_rfl) (by kernel_rfl) (fun _ _ _ h => h) (Or.inl ⟨by kernel_rfl, fun W hW => ?y17⟩) hHeld ?r17
      · go_simp
      refine wpAnyH_ready (rs := [14]) (by kernel_rfl) (by simp) ?_
      refine AllReadyH.cons rfl (fun K hK => ?_) AllReadyH.nil
      rw [if_pos (by rfl)]
      refine wp_store_row 29 _ _ rfl g8 PH rfl rfl 29 Z r8 iP sZP oP ?_
      have r8 : Row (X10.setRow g8 PH) g8 PH 29 := setRow_heap X10 g8 _ PH 29 _ r8
      have T11 : Turn no w0 (X10.setRow g8 PH) := hHeld.setRow g8 PH (fun q => by omega)
      refine hK.out _ _ T11 (fun hHeld => ?_)
      clear hK
      clear T11
      obtain ⟨Y11, hY11⟩ : ∃ X, X10.setRow g8 PH = X := ⟨_, rfl⟩
      rw [hY11] at r8 hHeld ⊢
      clear hY11
      refine' wpAnyH_take (i := 15) (v := .int .i64 pe) rfl (by kernel_rfl) (by kernel_rfl) (by kernel_rfl) (fun _ _ _ h => h) (Or.inl ⟨by kernel_rfl, fun W hW => ?y18⟩) hHeld ?r18
      · go_simp
      refine wpAnyH_done (by kernel_rfl) ?_ _
      go_simp
      go_wp2_with fail
      go_meet
      case rel => exact ⟨g8, rfl, rfl, ⟨r8, hHeld⟩⟩
  case rest =>
    obtain ⟨g, rfl, rfl, HK⟩ := hcut
    have RZc := Row.turn HRZ.out HK.out.2 (fun q => q)
    by_cases hpe : pe = 0
    · subst hpe
      obtain ⟨y32, y33, rR, rX, _, _⟩ := HC.out wc HK.out.2
      have rP : wc.rangeAt g 0 PHl := by
        have := Row.rng HK.out.1
        rw [HPR.out.1] at this
        simpa using this
      have HR4 : Shut (∀ W, Turn no wc W → W.rangeAt g 0 PHl ∧ W.rangeAt (w.heap.size + 1) 0 RL ∧ W.rangeAt w.heap.size 0 XL) := fun W t => ⟨fun j u hu => t.keep (rP j u hu) (fun q => q), fun j u hu => t.keep (rR j u hu) (fun q => q), fun j u hu => t.keep (rX j u hu) (fun q => q)⟩
      have hQ := HQ.out
      have HIW : Shut (∀ W, Turn no wc W → Calls Tryz.prog 26 #[.agg PH, .agg RA] W fun e w' => e = .returned (.agg IH) ∧ Turn no W w') := fun W t => HI.out W (HK.out.2.then_no t)
      have iPl := HPR.out.2
      clear y32 y33 rR rX rP RZc
      go_upto_region 4 with fail
      refine wp_region_held_drew (S := fun W => Turn no wc W) (by kernel_rfl) (Turn.refl no wc).drew (fun hHeld => ?_)
      refine' wpAnyH_take (i := 0) (v := .agg PH) rfl (by kernel_rfl) (by kernel_rfl) (by kernel_rfl) (fun _ _ _ h => h) (by rw [HPR.out.1]; exact yieldsIf_load_mid (by kernel_rfl) 29 (.tmp 6) rfl g (0) (by kernel_rfl) PHl _ (fun W h => (HR4.out W h).1) Tryz.underlying29 rfl iPl) hHeld ?q0
      refine' wpAnyH_take (i := 1) (v := .pointer (some ⟨w.heap.size + 1, 0, none⟩)) rfl (by kernel_rfl) (by kernel_rfl) (by kernel_rfl) (fun _ _ _ h => h) (Or.inl ⟨by kernel_rfl, fun W hW => ?y19⟩) hHeld ?r19
      · go_simp
      refine' wpAnyH_take (i := 2) (v := .agg RA) rfl (by kernel_rfl) (by kernel_rfl) (by kernel_rfl) (fun _ _ _ h => h) (by rw [HXR.out.2]; exact yieldsIf_load_mid (by kernel_rfl) 29 (.tmp 26) rfl (w.heap.size + 1) (0) (by kernel_rfl) RL _ (fun W h => (HR4.out W h).2.1) Tryz.underlying29 rfl iR) hHeld ?q2
      refine' wpAnyH_take (i := 4) (v := .agg XA) rfl (by kernel_rfl) (by kernel_rfl) (by kernel_rfl) (fun _ _ _ h => h) (by rw [HXR.out.1]; exact yieldsIf_load_mid (by kernel_rfl) 29 (.tmp 2) rfl w.heap.size (0) (by kernel_rfl) XL _ (fun W h => (HR4.out W h).2.2) Tryz.underlying29 rfl iX) hHeld ?q4
      refine wpAnyH_ready (rs := [3]) (by kernel_rfl) (by simp) ?_
      refine AllReadyH.cons rfl (fun K hK => ?_) AllReadyH.nil
      go_simp
      refine (HIW.out _ hHeld).mono ?_
      rintro e wd ⟨rfl, td⟩
      refine hK.out _ _ (hHeld.then_no td) (fun hHeld => ?_)
      clear hK
      refine' wpAnyH_take (i := 5) (v := .bool (!bb)) rfl (by kernel_rfl) (by kernel_rfl) (by kernel_rfl) (fun _ _ _ h => h) (Or.inl ⟨by kernel_rfl, fun W hW => ?y20⟩) hHeld ?r20
      · go_simp
      refine wpAnyH_done (by kernel_rfl) ?_ _
      go_simp
      have HD := shut hHeld
      clear hHeld HR4 HIW hQ
      have RZd := Row.turn HRZ.out (HK.out.2.then_no HD.out) (fun q => q)
      have RPd := Row.turn HK.out.1 HD.out (fun q => q)
      cases bb with
      | true =>
        go_wp2_with (first | (guard_target =~ wpList _ _ _ ({ dst := some 32, .. } :: _) _ _; refine wpList_load_row rfl 29 (.tmp 6) rfl g rfl 29 PH _ _ RPd Tryz.underlying29 rfl iP ?_) | (guard_target =~ wpList _ _ _ ({ dst := _, op := Op.store 29 _ _, .. } :: _) _ _; refine wpList_store_anyN rfl rfl 29 (.tmp 4) (.tmp 32) rfl (w.heap.size + 2) PH rfl rfl 29 Z RZd iP sZP oP ?_; intro w9 R9 T9))
        have e1 : TE = 0 := by rw [HE.out]; rfl
        have e2 : TH = PH := by rw [HH.out, e1]; rfl
        refine bodyPost_ret (v := .tuple #[.agg PH, .int .i64 0]) (results_cell_row_tmp (P := Tryz.prog) Tryz.results64 _ _ (w.heap.size + 2) 29 PH (0, 0) _ rfl R9 Tryz.underlying29 rfl iP) rfl ⟨by rw [e1, e2], (HT0.out.then_no (HK.out.2.then_no HD.out)).trans T9 (fun i hi q => by have q2 : i = w.heap.size + 2 := q; omega)⟩
      | false =>
        go_wp2_with (first | (guard_target =~ wpList _ _ _ ({ dst := _, op := Op.build 29 _, .. } :: _) _ _; refine wpList_buildG (by kernel_rfl) 29 rfl _ (hbd.out _) ?_) | (guard_target =~ wpList _ _ _ ({ dst := _, op := Op.store 29 _ _, .. } :: _) _ _; refine wpList_store_anyN rfl rfl 29 (.tmp 4) (.tmp 31) rfl (w.heap.size + 2) Z rfl rfl 29 Z RZd iZ rfl oZ ?_; intro w9 R9 T9))
        have e1 : TE = 21 := by rw [HE.out]; rfl
        have e2 : TH = Z := by rw [HH.out, e1]; rfl
        refine bodyPost_ret (v := .tuple #[.agg Z, .int .i64 21]) (results_cell_row_tmp (P := Tryz.prog) Tryz.results64 _ _ (w.heap.size + 2) 29 Z (0, 0) _ rfl R9 Tryz.underlying29 rfl iZ) rfl ⟨by rw [e1, e2], (HT0.out.then_no (HK.out.2.then_no HD.out)).trans T9 (fun i hi q => by have q2 : i = w.heap.size + 2 := q; omega)⟩
    · have hpe' : (pe != 0) = true := by simpa using hpe
      go_wp2_with (first | (guard_target =~ wpList _ _ _ ({ dst := _, op := Op.build 29 _, .. } :: _) _ _; refine wpList_buildG (by kernel_rfl) 29 rfl _ (hbd.out _) ?_) | (guard_target =~ wpList _ _ _ ({ dst := _, op := Op.store 29 _ _, .. } :: _) _ _; refine wpList_store_anyN rfl rfl 29 (.tmp 4) (.tmp 23) rfl (w.heap.size + 2) Z rfl rfl 29 Z RZc iZ rfl oZ ?_; intro w9 R9 T9))
      have e1 : TE = pe := by rw [HE.out, if_neg hpe]
      have e2 : TH = Z := by rw [HH.out, e1, if_neg hpe]
      refine bodyPost_ret (v := .tuple #[.agg Z, .int .i64 pe]) (results_cell_row_tmp (P := Tryz.prog) Tryz.results64 _ _ (w.heap.size + 2) 29 Z (0, 0) _ rfl R9 Tryz.underlying29 rfl iZ) rfl ⟨by rw [e1, e2], (HT0.out.then_no HK.out.2).trans T9 (fun i hi q => by have q2 : i = w.heap.size + 2 := q; omega)⟩
end Go.Proofs.YtlacfenenbblaaaGreatDoor


