/- The walk of LedgerBinds: what is let. -/
import Derived.Test.YtlacfenenbblaaaGreatDoorB3
import Derived.Test.YtlacfenenbblaaaGreatDoorP6
import Derived.Test.YtlacfenenbblaaaGreatDoorP8
import Derived.Test.YtlacfenenbblaaaGreatDoorG8
namespace Go.Proofs.YtlacfenenbblaaaGreatDoor
open Go.RowKit
set_option linter.unusedVariables false

set_option maxRecDepth 100000 in
set_option maxHeartbeats 80000000 in
theorem binds3_let (w : World) (l0 : Laid0 w) (l1 : Laid1 w) (h2 : 2 ≤ w.heap.size) (va vr : Value) (l : List Ac) (r : List Rl) (ha : As w va l) (hr : Rs w vr r) (b s x : Nat) (hb : b < 18446744073709551616) (hs : s < 18446744073709551616) (R : List UInt8) (hR : R.length = 32) (v1 v2 : Value) (L : List Ac) (Q : List Pf) (hL : As w v1 L) (hQ : Qs w v2 Q) (he : ledE b l r s = 0) (hv : (vA (lrH b s l r) R x L Q).2.2 = 0) :
    Calls Tryz.prog 3 #[.agg (ldA va vr b s), .int .u64 x, .agg (wtL R v1 v2).toArray] w fun e w' => e = .returned (.bool true) ∧ Turn no w w' := by
  obtain ⟨w0, hw0⟩ : ∃ w0, (w.alloc (.cells (ldA va vr b s) 26)).alloc (.cells (wtL R v1 v2).toArray 32) = w0 := ⟨_, rfl⟩
  have T0 : Turn no w w0 := by rw [← hw0]; exact ((Turn.refl no w).alloc _).alloc _
  have RL : Row w0 w.heap.size (ldA va vr b s) 26 := by rw [← hw0]; exact (Row.new w _ 26).alloc _
  have RW : Row w0 (w.heap.size + 1) (wtL R v1 v2).toArray 32 := by rw [← hw0]; exact Row.newAt _ _ _ _ (by simp)
  have iL := ld_info va vr b s
  have iW : (Tryz.prog.info? 32).map (·.size) = some (wtL R v1 v2).toArray.size := by rw [List.size_toArray, wtL_len hR]; exact size29w
  have hal := alive5 w0
  have HL : ∀ W, Turn no w0 W → Laid0 W ∧ Laid1 W ∧ 2 ≤ W.heap.size := fun W t => ⟨l0.turn (T0.then_no t) (fun q => q), l1.turn (T0.then_no t) (fun q => q), by have := (T0.then_no t).size; omega⟩
  have HAS : ∀ W, Turn no w0 W → As W va l ∧ Rs W vr r ∧ As W v1 L ∧ Qs W v2 Q := fun W t => ⟨ha.turn_no (T0.then_no t), hr.turn_no (T0.then_no t), hL.turn_no (T0.then_no t), by obtain ⟨p, c, e, h⟩ := hQ; exact ⟨p, c, e, h.turn_no (T0.then_no t)⟩⟩
  have hX : (lrH b s l r).length = 32 := by
    unfold lrH
    split
    · exact hashOf_len _
    · rfl
  have HRT : Shut (∀ W, Turn no w0 W → Calls Tryz.prog 5 #[.agg (ldA va vr b s)] W fun e w' => e = .returned (.tuple #[.agg (hb32 (lrH b s l r)), .int .i64 (ledE b l r s)]) ∧ Turn no W w') := fun W t => root6 W (HL W t).2.1 (HL W t).2.2 va vr l r (HAS W t).1 (HAS W t).2.1 b s hb hs
  have HRR : Shut (∀ W, Turn no w0 W → Calls Tryz.prog 6 #[.agg (ldA va vr b s)] W fun e w' => e = .returned (.tuple #[.agg (hb32 (lrH b s l r)), .int .i64 (ledE b l r s)]) ∧ Turn no W w') := fun W t => rroot9 W (HL W t).1 (HL W t).2.2 va vr l r (HAS W t).1 (HAS W t).2.1 b s hb hs
  have HVE : Shut (∀ W, Turn no w0 W → Calls Tryz.prog 7 #[.agg (hb32 (lrH b s l r)), .int .u64 x, .agg (wtL R v1 v2).toArray] W fun e w' => e = .returned (.tuple #[.agg (acs (vA (lrH b s l r) R x L Q).1).toArray, .bool (vA (lrH b s l r) R x L Q).2.1, .int .i64 (vA (lrH b s l r) R x L Q).2.2]) ∧ Turn no W w') := fun W t => ver5 W (HL W t).2.1 (HL W t).2.2 (lrH b s l r) R hX hR x v1 v2 L Q (HAS W t).2.2.1 (HAS W t).2.2.2
  have iX := hb32_info hX
  have sX := hb32_size hX
  have oX := hb32_one (lrH b s l r)
  have zX := hb32_size z32_len
  have zv29 := zero35v
  have zv38 := zero32v
  have HT0 := shut T0
  have iM := acs_info (vA (lrH b s l r) R x L Q).1
  have oM := acs_one (vA (lrH b s l r) R x L Q).1
  have sM : AZ.size = (acs (vA (lrH b s l r) R x L Q).1).toArray.size := rfl
  obtain ⟨hn, hL2, hinX, hLet, hPath⟩ := vA_ok hv
  obtain ⟨h1l, h1r⟩ := led_small he
  obtain ⟨hA, hpos⟩ := led_asc he
  have eX : lrH b s l r = inH (acR l) (hashOf (restB b s r)) := if_pos he
  have lT : (acR l).length = 32 := hashOf_len _
  have lRR : (hashOf (restB b s r)).length = 32 := hashOf_len _
  have lS : (shH L Q).length = 32 := by
    unfold shH
    split
    · exact pathH_len _ _ _ _
    · exact rootH_len _
  have hh : hashOf (1 :: (acR l ++ hashOf (restB b s r))) = hashOf (1 :: (shH L Q ++ R)) := by
    have : inH (acR l) (hashOf (restB b s r)) = inH (shH L Q) R := by rw [← eX, hinX]
    exact this
  have hEQ : Shut ((1 :: (acR l ++ hashOf (restB b s r)) == 1 :: (shH L Q ++ R)) = true → shH L Q = acR l) := fun q => by
    have q : 1 :: (acR l ++ hashOf (restB b s r)) = 1 :: (shH L Q ++ R) := by simpa using q
    exact (List.append_inj (List.cons.inj q).2 (by rw [lT, lS])).1.symm
  have hcl : Shut ((1 :: (acR l ++ hashOf (restB b s r)) == 1 :: (shH L Q ++ R)) = false → clB (1 :: (acR l ++ hashOf (restB b s r))) (1 :: (shH L Q ++ R)) = true) := fun q => clB_root q hh
  have hTl : Shut (((⟨(1 :: (acR l ++ hashOf (restB b s r))).toArray⟩ : ByteArray).toList == (⟨(1 :: (shH L Q ++ R)).toArray⟩ : ByteArray).toList) = (1 :: (acR l ++ hashOf (restB b s r)) == 1 :: (shH L Q ++ R))) := by show _ = _; rw [text_list, text_list]
  have hl0 : (rootT ([] : Its)).length = 41 := rootT_len _
  have hTr : (rtT (forms l)).length = 41 := by simp [rtT, numE_len, topH_len]
  have hRa : L = [] → shH L Q = acR l → hashOf (rootT ([] : Its)) = hashOf (rtT (forms l)) := fun q1 q2 => by
    subst q1
    have : shH [] Q = rootH [] := rfl
    rw [this] at q2
    have e : rootH ([] : Its) = hashOf (rootT []) := by unfold rootH; rw [(big_of []).2 ⟨by simp, fun x hx => by cases hx⟩]; rfl
    rw [e] at q2
    exact q2
  have HFO : Shut (∀ W, Turn no w0 W → Calls Tryz.prog 9 #[.agg (ldA va vr b s)] W (Fs W l)) := fun W t => rforms27 W va vr l (HAS W t).1 h1l b s
  have HR8 : Shut (∀ W, Turn no w0 W → ∀ a cap its, BlAt W a cap its → txs its = forms l → Calls Tryz.prog 8 #[.slice a its.length cap] W fun e w' => e = .returned (.tuple #[.agg (hb32 (acR l)), .int .i64 0]) ∧ Turn no W w') := fun W t a cap its B q => by
    have := root8 W a cap its B (HL W t).1 (HL W t).2.2
    obtain ⟨r1, r2⟩ := root_its q (by simpa [forms] using h1l) (form_small l)
    rw [r1, r2] at this
    exact this
  have HR0 : Shut (∀ W, Turn no w0 W → Calls Tryz.prog 8 #[.slice none 0 0] W fun e w' => e = .returned (.tuple #[.agg (hb32 (rootH [])), .int .i64 0]) ∧ Turn no W w') := fun W t => rroot_nil W (HL W t).1 (HL W t).2.2
  have HTT : Shut (∀ W, Turn no w0 W → Calls Tryz.prog 13 #[.agg (ldA va vr b s)] W fun e w' => ∃ v, e = .returned v ∧ Fr W w' v (restB b s r)) := fun W t => rrest29 W va vr r (HAS W t).2.1 h1r b s hb hs
  have hlen := restB_len b s r
  have HSM : Shut (∀ W, Turn no w0 W → ∀ v, Bs W v (restB b s r) → Calls Tryz.prog 12 #[v] W fun e w' => e = .returned (.agg (hb32 (hashOf (restB b s r)))) ∧ Turn no W w') := fun W t v q => rsum_all W v _ q (HL W t).1 (HL W t).2.2 (by omega)
  have HI1 : Shut (∀ W, Turn no w0 W → Calls Tryz.prog 14 #[.agg (hb32 (acR l)), .agg (hb32 (hashOf (restB b s r)))] W fun e w' => ∃ v, e = .returned v ∧ Bs w' v (1 :: (acR l ++ hashOf (restB b s r))) ∧ Turn no W w') := fun W t => (innerText_any W _ _ lT lRR).mono (fun e w' ⟨v, e1, o, t⟩ => ⟨v, e1, o.bs, t⟩)
  have HI2 : Shut (∀ W, Turn no w0 W → Calls Tryz.prog 14 #[.agg (hb32 (shH L Q)), .agg (R.map bv).toArray] W fun e w' => ∃ v, e = .returned v ∧ Bs w' v (1 :: (shH L Q ++ R)) ∧ Turn no W w') := fun W t => (innerText_any W _ _ lS hR).mono (fun e w' ⟨v, e1, o, t⟩ => ⟨v, e1, o.bs, t⟩)
  have HCL : Shut (∀ W, Turn no w0 W → ∀ z z', Bs W z (1 :: (acR l ++ hashOf (restB b s r))) → Bs W z' (1 :: (shH L Q ++ R)) → Calls Tryz.prog 15 #[z, z'] W fun e w' => e = .returned (.bool (clB (1 :: (acR l ++ hashOf (restB b s r))) (1 :: (shH L Q ++ R)))) ∧ Turn no W w') := fun W t z z' q1 q2 => clash26 W z z' _ _ q1 q2 (by simp [lT, lRR]) (by simp [lS, hR]) (HL W t).1 (HL W t).2.2
  have HC2 : Shut (∀ W, Turn no w0 W → ∀ z z', Bs W z (rootT ([] : Its)) → Bs W z' (rtT (forms l)) → Calls Tryz.prog 15 #[z, z'] W fun e w' => e = .returned (.bool (clB (rootT ([] : Its)) (rtT (forms l)))) ∧ Turn no W w') := fun W t z z' q1 q2 => clash26 W z z' _ _ q1 q2 (by rw [hl0]; omega) (by rw [hTr]; omega) (HL W t).1 (HL W t).2.2
  have HP0 : Shut (∀ W, Turn no w0 W → Calls Tryz.prog 17 #[.slice none 0 0] W fun e w' => e = .returned (.agg (hb32 (topH []))) ∧ Turn no W w') := fun W t => rtop_all (w := W) (a := none) (cap := 0) (l := []) ⟨by simp, by simp [maxLen], by simp, .inl rfl⟩ ⟨by simp, fun x hx => by cases hx⟩ (HL W t).1 (HL W t).2.2
  have HP1 : Shut (∀ W, Turn no w0 W → ∀ a cap its, BlAt W a cap its → txs its = forms l → Calls Tryz.prog 17 #[.slice a its.length cap] W fun e w' => e = .returned (.agg (hb32 (topH (forms l)))) ∧ Turn no W w') := fun W t a cap its B q => by
    have := rtop_all B (its_ok2 q h1l).2 (HL W t).1 (HL W t).2.2
    rwa [q] at this
  have HT1 : Shut (∀ W, Calls Tryz.prog 16 #[.int .i64 0, .agg (hb32 (topH []))] W fun e w' => ∃ v, e = .returned v ∧ Bs w' v (rootT ([] : Its)) ∧ Turn no W w') := fun W => (rootText_any W 0 (by omega) (topH []) (topH_len _)).mono (fun e w' ⟨v, e1, o, t⟩ => ⟨v, e1, o.bs, t⟩)
  have HT2 : Shut (∀ W, Calls Tryz.prog 16 #[.int .i64 l.length, .agg (hb32 (topH (forms l)))] W fun e w' => ∃ v, e = .returned v ∧ Bs w' v (rtT (forms l)) ∧ Turn no W w') := fun W => (rootText_any W l.length h1l (topH (forms l)) (topH_len _)).mono (fun e w' ⟨v, e1, o, t⟩ => ⟨v, e1, by unfold rtT; rw [show (forms l).length = l.length by simp [forms]]; exact o.bs, t⟩)
  have HBE : Shut (shH L Q = acR l → ∀ W, Turn no w0 W → Calls Tryz.prog 18 #[.agg (ldA va vr b s), .agg (wtL R v1 v2).toArray] W fun e w' => Sc (∀ (j : Nat) m q, L[j]? = some m → Q[j]? = some q → Alike l m q) W e w') := fun hq W t => beside18 W (HL W t).1 (HL W t).2.2 va vr l (HAS W t).1 h1l b s R hR v1 v2 L Q (HAS W t).2.2.1 (HAS W t).2.2.2 hn (by rw [← hq]; exact hLet)
  have HFI : Shut (∀ m f, VP l x m f → ∀ W, Turn no w0 W → Calls Tryz.prog 19 #[.agg (ldA va vr b s), .int .u64 x] W fun e w' => ∃ k, e = .returned (.tuple #[.agg (acs m).toArray, .int .i64 k]) ∧ ((f = true ∧ k = 0) ∨ (f = false ∧ k = 85)) ∧ Turn no W w') := fun m f hVP W t => by
    obtain ⟨ra, rn, er, _⟩ := id hr
    refine (find15 W va vr l (HAS W t).1 ⟨_, _, _, er⟩ b s x).mono ?_
    rintro e w' ⟨m', k, rfl, hf, q⟩
    obtain ⟨rfl, h3⟩ := hVP.find hA hpos hf
    exact ⟨k, rfl, h3, q⟩
  have HVP : Shut ((∀ (j : Nat) m q, L[j]? = some m → Q[j]? = some q → Alike l m q) → (L = [] → l = []) → VP l x (vA (lrH b s l r) R x L Q).1 (vA (lrH b s l r) R x L Q).2.1) := fun q1 q2 => vA_end hA h1l hv q1 q2
  have HNI : Shut ((rootT ([] : Its) == rtT (forms l)) = true → l = []) := fun q => by
    have q : rootT ([] : Its) = rtT (forms l) := by simpa using q
    unfold rootT rtT at q
    have q2 := (List.append_inj (List.cons.inj q).2 (by rw [numE_len, numE_len])).1
    have := numE_inj (by simp) (by simp [forms]; omega) q2
    simp [forms] at this
    exact List.eq_nil_of_length_eq_zero (by simpa using this.symm)
  have hcl2 : Shut (L = [] → shH L Q = acR l → (rootT ([] : Its) == rtT (forms l)) = false → clB (rootT ([] : Its)) (rtT (forms l)) = true) := fun q1 q2 q3 => clB_root q3 (hRa q1 q2)
  have hTl2 : Shut (((⟨(rootT ([] : Its)).toArray⟩ : ByteArray).toList == (⟨(rtT (forms l)).toArray⟩ : ByteArray).toList) = (rootT ([] : Its) == rtT (forms l))) := by show _ = _; rw [text_list, text_list]
  have HCO : Shut (∀ W v bs, Bs W v bs → (convert 48 9 v).run Tryz.prog W = .ok (.string ⟨bs.toArray⟩) W) := fun W v bs q => bytes_text q
  have HCP : Shut (∀ W v, Bs W v (1 :: (acR l ++ hashOf (restB b s r))) → (convert 48 9 v).run Tryz.prog W = .ok (.string ⟨(1 :: (acR l ++ hashOf (restB b s r))).toArray⟩) W) := fun W v q => bytes_text q
  have HCQ : Shut (∀ W v, Bs W v (1 :: (shH L Q ++ R)) → (convert 48 9 v).run Tryz.prog W = .ok (.string ⟨(1 :: (shH L Q ++ R)).toArray⟩) W) := fun W v q => bytes_text q
  have HCA : Shut (∀ W v, Bs W v (rootT ([] : Its)) → (convert 48 9 v).run Tryz.prog W = .ok (.string ⟨(rootT ([] : Its)).toArray⟩) W) := fun W v q => bytes_text q
  have HCB : Shut (∀ W v, Bs W v (rtT (forms l)) → (convert 48 9 v).run Tryz.prog W = .ok (.string ⟨(rtT (forms l)).toArray⟩) W) := fun W v q => bytes_text q
  obtain ⟨aA, cA, eA, hAA⟩ := id hL
  obtain ⟨aQ, cQ, eQ, hQQ⟩ := id hQ
  have c32 := RW.cell 32 _ (wtL_32 hR v1 v2)
  have c33 := RW.cell 33 _ (wtL_33 hR v1 v2)
  have rR : w0.rangeAt (w.heap.size + 1) 0 (R.map bv) := fun j u hu => RW.cell (0 + j) _ (wtL_R R v1 v2 j u hu)
  have iR : (Tryz.prog.info? 29).map (·.size) = some (R.map bv).length := by rw [List.length_map, hR]; exact size35
  have HXC : Shut (∀ W, Turn no w0 W → W.cell? ⟨w.heap.size + 1, 32, none⟩ = some v1 ∧ W.cell? ⟨w.heap.size + 1, 33, none⟩ = some v2 ∧ W.rangeAt (w.heap.size + 1) 0 (R.map bv)) := fun W t => ⟨t.keep c32 (fun q => q), t.keep c33 (fun q => q), fun i u hu => t.keep (rR i u hu) (fun q => q)⟩
  have HXR : Shut (∀ W, Turn no w0 W → Row W w.heap.size (ldA va vr b s) 26 ∧ Row W (w.heap.size + 1) (wtL R v1 v2).toArray 32) := fun W t => ⟨RL.turn t (fun q => q), RW.turn t (fun q => q)⟩
  -- the first account and its proof
  have H18 : Shut (∀ m q, L[0]? = some m → Q[0]? = some q → (∃ b1 o1, aA = some ⟨b1, o1, none⟩ ∧ (∀ W, Turn no w0 W → W.rangeAt b1 o1 (acs m))) ∧ (∃ b2 o2 a' c', aQ = some ⟨b2, o2, none⟩ ∧ (∀ W, Turn no w0 W → W.rangeAt b2 o2 (pfC q a' c')) ∧ ∀ W u, Turn no w0 W → Bs W u (formB m) → Calls Tryz.prog 10 #[.agg (pfC q a' c').toArray, u] W fun e w' => e = .returned (.tuple #[.agg (hb32 (shH L Q)), .int .i64 0]) ∧ Turn no W w') ∧ (∀ W, Turn no w0 W → Calls Tryz.prog 11 #[.agg (acs m).toArray] W fun e w' => ∃ v, e = .returned v ∧ Fr W w' v (formB m))) := fun m q hm hq => by
    obtain ⟨b1, o1, e1, r1⟩ := hAA.range 0 m hm
    obtain ⟨b2, o2, a', c', e2, hH, r2⟩ := hQQ.cells 0 q hq
    have hp := hPath m q hm hq
    have hs : shH L Q = pathH q.t q.i q.A (formB m) := by
      match L, Q, hm, hq with
      | m' :: _, q' :: _, hm, hq =>
        cases hm
        cases hq
        rfl
    refine ⟨⟨b1, o1, e1, fun W t i u hu => ?_⟩, ⟨b2, o2, a', c', e2, fun W t i u hu => ?_, fun W u t hu => ?_⟩, fun W t => rform17 W m (hAA.ok m (List.mem_of_getElem? hm))⟩
    · have := r1 i u hu
      rw [Nat.zero_mul, Nat.add_zero] at this
      exact (T0.then_no t).keep this (fun q => q)
    · have := r2 i u hu
      rw [Nat.zero_mul, Nat.add_zero] at this
      exact (T0.then_no t).keep this (fun q => q)
    · have := rpath27 W q.t q.i q.A a' c' (hH.turn_no (T0.then_no t)) u (formB m) hu (HL W t).1 (HL W t).2.2
      rw [formB_len, hp, ← hs] at this
      exact this
  have HS0 : Shut (L = [] → hb32 (shH L Q) = hb32 (rootH [])) := fun q => by subst q; rfl
  obtain ⟨n, hnL⟩ : ∃ n, Shut (L.length = n) := ⟨_, rfl⟩
  have hnn := hnL.out
  rw [hn, hnn] at eQ
  rw [hnn] at eA hL2
  have HNZ : Shut (n = 0 → L = []) := fun q => List.eq_nil_of_length_eq_zero (by rw [hnn, q])
  have HNC : Shut (n ≤ cA ∧ n ≤ cQ ∧ Q.length = n) := ⟨by have := hAA.le; omega, by have := hQQ.le; omega, by omega⟩
  have iT := hb32_info lT
  have sT := hb32_size lT
  have oT := hb32_one (acR l)
  have iRR := hb32_info lRR
  have sRR := hb32_size lRR
  have oRR := hb32_one (hashOf (restB b s r))
  have iS := hb32_info lS
  have sS := hb32_size lS
  have oS := hb32_one (shH L Q)
  have iN := hb32_info (rootH_len [])
  have sN := hb32_size (rootH_len [])
  have oN := hb32_one (rootH [])
  obtain ⟨adl, capl, eva, -⟩ := id ha
  have hl65 := h1l
  rw [he] at HRT HRR
  rw [hv] at HVE
  have HLN : Shut ((L = [] → (l = [] ↔ l = [])) ∧ True) := ⟨fun _ => Iff.rfl, trivial⟩
  have hv0 : (ldA va vr b s)[0]? = some va := rfl
  subst eA eQ
  clear HLN HL HAS ha hr hL hQ l0 l1 h2 hX hb hs T0 hAA hQQ c32 c33 rR hLet hPath hinX hn hnn hh eX hRa he hv hpos hA h1l h1r lT lRR lS hlen hTr hl0 RL RW hR
  generalize hf1 : (vA (lrH b s l r) R x L Q).2.1 = f1 at *
  generalize hm1 : (vA (lrH b s l r) R x L Q).1 = m1 at *
  clear hf1 hm1
  generalize clB (1 :: (acR l ++ hashOf (restB b s r))) (1 :: (shH L Q ++ R)) = cl1 at *
  generalize clB (rootT ([] : Its)) (rtT (forms l)) = cl2 at *
  generalize (⟨(1 :: (acR l ++ hashOf (restB b s r))).toArray⟩ : ByteArray) = tx1 at *
  generalize (⟨(1 :: (shH L Q ++ R)).toArray⟩ : ByteArray) = ty1 at *
  generalize (⟨(rootT ([] : Its)).toArray⟩ : ByteArray) = tx2 at *
  generalize (⟨(rtT (forms l)).toArray⟩ : ByteArray) = ty2 at *
  generalize (1 :: (acR l ++ hashOf (restB b s r)) == 1 :: (shH L Q ++ R)) = q1 at *
  generalize (rootT ([] : Its) == rtT (forms l)) = q2 at *
  generalize 1 :: (acR l ++ hashOf (restB b s r)) = TP at *
  generalize 1 :: (shH L Q ++ R) = TQ at *
  generalize rootT ([] : Its) = TA2 at *
  generalize rtT (forms l) = TB2 at *
  obtain ⟨PE, hPE⟩ : ∃ P : Prop, P = (shH L Q = acR l) := ⟨_, rfl⟩
  rw [← hPE] at hEQ hcl2 HBE
  clear hPE
  generalize hb32 (topH []) = HP0A at *
  generalize hb32 (topH (forms l)) = HP1A at *
  generalize hb32 (acR l) = TA at *
  generalize hb32 (hashOf (restB b s r)) = RA at *
  generalize hb32 (shH L Q) = SA at *
  generalize hb32 (rootH []) = NA at *
  generalize restB b s r = RB at *
  generalize R.map bv = RLs at *
  have hQm : ∀ W, (Op.equalIn 10000 38 (.agg (acs m1).toArray) (.agg (acs m1).toArray)).run Tryz.prog W = .ok true W := fun W => eq32v W m1
  have HQM := shut hQm
  clear hQm
  generalize hMA : (acs m1).toArray = MA at *
  have HMA := shut hMA
  clear hMA
  generalize hXA : hb32 (lrH b s l r) = XA at *
  generalize hZX : hb32 z32 = ZX at *
  generalize hLA : ldA va vr b s = LA at *
  generalize hWA : (wtL R _ _).toArray = WA at *
  clear hXA hZX hLA hWA
  go_enter Tryz.func3, Tryz.ntmps3
  go_upto_region 1 with fail
  try rw [hw0]
  clear hw0
  go_upto_region 4 with (go_at_call 4; refine hal.mono ?_; clear hal; rintro e w1 ⟨rfl, t1⟩)
  have RL1 := (HXR.out w1 t1).1
  have RW1 := (HXR.out w1 t1).2
  have hc := HRT.out w1 t1
  go_upto_region 5 with (first | (guard_target =~ wpList _ _ _ ({ dst := some 31, .. } :: _) _ _; refine wpList_load_row rfl 26 (.tmp 3) rfl w.heap.size rfl 26 LA _ _ RL1 Tryz.underlying26 rfl iL ?_) | (go_at_call 5; refine hc.mono ?_; clear hc; rintro e w2 ⟨rfl, t2⟩) | (guard_target =~ wpList _ _ _ ({ dst := _, op := Op.store 29 _ _, .. } :: _) _ _; refine wpList_store_anyN rfl rfl 29 (.tmp 8) (.tmp 33) rfl w2.heap.size XA rfl rfl 29 ZX (Row.new w2 ZX 29) iX (by rw [zX, sX]) oX ?_; intro w3 R3 t3))
  have T23 : Turn no w2 w3 := ((((Turn.refl no w2).alloc _).of_no.trans t3 (fun _ _ e => e) : Turn (fun q => q = w2.heap.size) w2 w3).mono (fun i hi e => by
    have e' : i = w2.heap.size := e
    omega))
  have T13 := t2.then_no T23
  have T3 := t1.then_no T13
  have RL3 := RL1.turn T13 (fun q => q)
  have RW3 := RW1.turn T13 (fun q => q)
  generalize w2.heap.size = g8 at *
  clear t1 t2 t3 T23 T13 RL1 RW1 HRT
  have hc := HRR.out w3 T3
  go_upto_region 6 with (first | (guard_target =~ wpList _ _ _ ({ dst := some 36, .. } :: _) _ _; refine wpList_load_row rfl 26 (.tmp 3) rfl w.heap.size rfl 26 LA _ _ RL3 Tryz.underlying26 rfl iL ?_) | (go_at_call 6; refine hc.mono ?_; clear hc; rintro e w4 ⟨rfl, t4⟩) | (guard_target =~ wpList _ _ _ ({ dst := _, op := Op.store 29 _ _, .. } :: _) _ _; refine wpList_store_anyN rfl rfl 29 (.tmp 10) (.tmp 38) rfl w4.heap.size XA rfl rfl 29 ZX (Row.new w4 ZX 29) iX (by rw [zX, sX]) oX ?_; intro w5 R5 t5))
  have T45 : Turn no w4 w5 := ((((Turn.refl no w4).alloc _).of_no.trans t5 (fun _ _ e => e) : Turn (fun q => q = w4.heap.size) w4 w5).mono (fun i hi e => by
    have e' : i = w4.heap.size := e
    omega))
  have T35 := t4.then_no T45
  have T5 := T3.then_no T35
  have RL5 := RL3.turn T35 (fun q => q)
  have RW5 := RW3.turn T35 (fun q => q)
  have R35 := R3.turn T35 (fun q => q)
  generalize w4.heap.size = g10 at *
  clear t4 t5 T45 T35 RL3 RW3 R3 R5 HRR T3
  have hc := HVE.out w5 T5
  go_upto_region 11 with (first | (guard_target =~ wpList _ _ _ ({ dst := some 46, .. } :: _) _ _; refine wpList_load_row rfl 29 (.tmp 8) rfl g8 rfl 29 XA _ _ R35 Tryz.underlying29 rfl iX ?_) | (guard_target =~ wpList _ _ _ ({ dst := some 48, .. } :: _) _ _; refine wpList_load_row rfl 32 (.tmp 5) rfl (w.heap.size + 1) rfl 32 WA _ _ RW5 Tryz.underlying32 rfl iW ?_) | (go_at_call 7; refine hc.mono ?_; clear hc; rintro e w6 ⟨rfl, t6⟩) | (guard_target =~ wpList _ _ _ ({ dst := _, op := Op.store 38 _ _, .. } :: _) _ _; refine wpList_store_anyN rfl rfl 38 (.tmp 12) (.tmp 50) rfl w6.heap.size MA rfl rfl 38 AZ (Row.new w6 AZ 38) iM sM oM ?_; intro w7 R7 t7))
  have T67 : Turn no w6 w7 := ((((Turn.refl no w6).alloc _).of_no.trans t7 (fun _ _ e => e) : Turn (fun q => q = w6.heap.size) w6 w7).mono (fun i hi e => by
    have e' : i = w6.heap.size := e
    omega))
  have T57 := t6.then_no T67
  have T7 := T5.then_no T57
  have RL7 := RL5.turn T57 (fun q => q)
  have RW7 := RW5.turn T57 (fun q => q)
  generalize w6.heap.size = g12 at *
  clear t6 t7 T67 T57 RL5 RW5 R35 HVE T5
  have HT7 := shut T7
  have hN2 : ¬ (2 : Int) < (n : Int) := by omega
  have hNn : ((n : Int) != (n : Int)) = false := by simp
  obtain ⟨z32, z33, -⟩ := HXC.out w7 T7
  go_upto_region 15 with fail
  clear z32 z33 hN2 hNn RW7
  have hc := HFO.out w7 T7
  go_upto_region 16 with (first | (guard_target =~ wpList _ _ _ ({ dst := some 76, .. } :: _) _ _; refine wpList_load_row rfl 26 (.tmp 3) rfl w.heap.size rfl 26 LA _ _ RL7 Tryz.underlying26 rfl iL ?_) | (go_at_call 9; refine hc.mono ?_; clear hc; rintro e w8 ⟨fa, fc, its, rfl, B8, q8, t8⟩; have hc := HR8.out w8 (T7.then_no t8) fa fc its (B8 _ (Turn.refl _ _)) q8) | (go_at_call 8; refine hc.mono ?_; clear hc; rintro e w9 ⟨rfl, t9⟩) | (guard_target =~ wpList _ _ _ ({ dst := _, op := Op.store 29 _ _, .. } :: _) _ _; refine wpList_store_anyN rfl rfl 29 (.tmp 14) (.tmp 79) rfl w9.heap.size TA rfl rfl 29 ZX (Row.new w9 ZX 29) iT (by rw [zX, sT]) oT ?_; intro w10 R10 t10))
  have TT : Turn no w9 w10 := ((((Turn.refl no w9).alloc _).of_no.trans t10 (fun _ _ e => e) : Turn (fun q => q = w9.heap.size) w9 w10).mono (fun i hi e => by
    have e' : i = w9.heap.size := e
    omega))
  have T710 := (t8.then_no t9).then_no TT
  have T10 := T7.then_no T710
  have R7b := R7.turn T710 (fun q => q)
  generalize w9.heap.size = g14 at *
  clear t8 t9 t10 TT T710 B8 q8 RL7 R7 T7
  have hc := HR0.out w10 T10
  go_upto_region 17 with (first | (go_at_call 8; refine hc.mono ?_; clear hc; rintro e w11 ⟨rfl, t11⟩) | (guard_target =~ wpList _ _ _ ({ dst := _, op := Op.store 29 _ _, .. } :: _) _ _; refine wpList_store_anyN rfl rfl 29 (.tmp 16) (.tmp 83) rfl w11.heap.size NA rfl rfl 29 ZX (Row.new w11 ZX 29) iN (by rw [zX, sN]) oN ?_; intro w12 R12 t12))
  have TT : Turn no w11 w12 := ((((Turn.refl no w11).alloc _).of_no.trans t12 (fun _ _ e => e) : Turn (fun q => q = w11.heap.size) w11 w12).mono (fun i hi e => by
    have e' : i = w11.heap.size := e
    omega))
  have hs11 := t11.size
  have hs10 := T10.size
  have hg7 := R7b.lt
  have hg14 := R10.lt
  have T1012 := t11.then_no TT
  have T12 := T10.then_no T1012
  have R7c := R7b.turn T1012 (fun q => q)
  have R14 := R10.turn T1012 (fun q => q)
  generalize w11.heap.size = g16 at *
  have hne1 : g16 ≠ g12 := by omega
  have hne2 : g16 ≠ g14 := by omega
  have hge : w0.heap.size ≤ g16 := by omega
  clear t11 t12 TT T1012 R10 R7b hs11 hs10 hg7 hg14 T10
  have HK : Shut (∀ W, Turn (fun q => q = g16) w12 W → Turn no w0 W ∧ Row W g12 MA 38 ∧ Row W g14 TA 29) := fun W t => ⟨T12.trans t (fun i hi e => by have e' : i = g16 := e; omega), R7c.turn t (fun e => hne1 e.symm), R14.turn t (fun e => hne2 e.symm)⟩
  obtain ⟨z32, z33, -⟩ := HXC.out w12 T12
  go_upto_if 88 with fail
  clear z32 z33
  go_cut [11, 88] from 89 (fun c d wx => Shut (Row wx g16 SA 29 ∧ Turn (fun q => q = g16) w12 wx))
  case first =>
    by_cases hz : n = 0
    · have hzb : decide ((0 : Int) < (n : Int)) = false := by simp; omega
      have HSN := HS0.out (HNZ.out hz)
      have HRE : Shut (Row w12 g16 SA 29 ∧ Turn (fun q => q = g16) w12 w12) := ⟨by rw [HSN]; exact R12, Turn.refl _ _⟩
      clear HSN
      go_wp2_with fail
      go_meet
      case rel => exact HRE
    · have hzb : decide ((0 : Int) < (n : Int)) = true := by simp; omega
      have hz0 : (0 : Int) < (n : Int) := by omega
      obtain ⟨m0, hm0⟩ : ∃ m, L[0]? = some m := ⟨L[0]'(by have := hnL.out; omega), List.getElem?_eq_getElem _⟩
      obtain ⟨p0, hp0⟩ : ∃ q, Q[0]? = some q := ⟨Q[0]'(by have := HNC.out.2.2; omega), List.getElem?_eq_getElem _⟩
      obtain ⟨⟨b1, o1, e1, r1⟩, ⟨b2, o2, a', c', e2, r2, HPA⟩, HFM⟩ := H18.out m0 p0 hm0 hp0
      subst e1
      subst e2
      have HR18 : Shut (∀ W, Turn (fun q => q = g16) w12 W → W.cell? ⟨w.heap.size + 1, 32, none⟩ = some (.slice (some ⟨b1, o1, none⟩) n cA) ∧ W.cell? ⟨w.heap.size + 1, 33, none⟩ = some (.slice (some ⟨b2, o2, none⟩) n cQ) ∧ W.rangeAt b1 o1 (acs m0) ∧ W.rangeAt b2 o2 (pfC p0 a' c')) := fun W t => ⟨(HXC.out W (HK.out W t).1).1, (HXC.out W (HK.out W t).1).2.1, r1 W (HK.out W t).1, r2 W (HK.out W t).1⟩
      have HFM := shut HFM
      have HPA := shut HPA
      have HI38 : Shut ((Tryz.prog.info? 38).map (·.size) = some (acs m0).length) := by show _ = _; kernel_rfl
      have HI47 : Shut ((Tryz.prog.info? 47).map (·.size) = some (pfC p0 a' c').length) := by show _ = _; kernel_rfl
      have hcA : n ≤ cA := HNC.out.1
      have hcQ : n ≤ cQ := HNC.out.2.1
      have HRN := shut R12
      have HSZ : Shut (NA.size = SA.size) := by show _ = _; rw [sN, sS]
      have HIS := shut iS
      have HOS := shut oS
      clear r1 r2 hm0 hp0 R12 R7c R14 T12
      generalize formB m0 = FM at *
      generalize acs m0 = AM at *
      generalize pfC p0 a' c' = PC at *
      go_upto_region 18 with fail
      refine wp_region_held_drew (S := fun W => Turn (fun q => q = g16) w12 W) (by kernel_rfl) (Turn.refl _ w12).drew (fun hHeld => ?_)
      obtain ⟨X0, hX0⟩ : ∃ X, w12.drew = X := ⟨_, rfl⟩
      have tX : Turn no w12 X0 := by rw [← hX0]; exact (Turn.refl no w12).drew
      rw [hX0] at hHeld ⊢
      clear hX0
      refine' wpAnyH_take (i := 0) (v := .pointer (some ⟨w.heap.size + 1, 33, none⟩)) rfl (by kernel_rfl) (by kernel_rfl) (by kernel_rfl) (fun _ _ _ h => h) (Or.inl ⟨by kernel_rfl, fun W hW => ?y1⟩) hHeld ?r1
      · go_simp
      refine' wpAnyH_take (i := 1) (v := .slice (some ⟨b2, o2, none⟩) n cQ) rfl (by kernel_rfl) (by kernel_rfl) (by kernel_rfl) (fun _ _ _ h => h) (Or.inl ⟨by kernel_rfl, fun W hW => ?y2⟩) hHeld ?r2
      · have cc := (HR18.out W hW).2.1
        go_simp
      refine' wpAnyH_take (i := 2) (v := .pointer (some ⟨b2, o2, none⟩)) rfl (by kernel_rfl) (by kernel_rfl) (by kernel_rfl) (fun _ _ _ h => h) (Or.inl ⟨by kernel_rfl, fun W hW => ?y3⟩) hHeld ?r3
      · go_simp
      refine' wpAnyH_take (i := 3) (v := .agg PC.toArray) rfl (by kernel_rfl) (by kernel_rfl) (by kernel_rfl) (fun _ _ _ h => h) (yieldsIf_load_mid (by kernel_rfl) 47 (.tmp 92) rfl b2 o2 (by go_simp) PC _ (fun W h => (HR18.out W h).2.2.2) Tryz.underlying47 rfl HI47.out) hHeld ?s3
      refine' wpAnyH_take (i := 4) (v := .pointer (some ⟨w.heap.size + 1, 32, none⟩)) rfl (by kernel_rfl) (by kernel_rfl) (by kernel_rfl) (fun _ _ _ h => h) (Or.inl ⟨by kernel_rfl, fun W hW => ?y4⟩) hHeld ?r4
      · go_simp
      refine' wpAnyH_take (i := 5) (v := .slice (some ⟨b1, o1, none⟩) n cA) rfl (by kernel_rfl) (by kernel_rfl) (by kernel_rfl) (fun _ _ _ h => h) (Or.inl ⟨by kernel_rfl, fun W hW => ?y5⟩) hHeld ?r5
      · have cc := (HR18.out W hW).1
        go_simp
      refine' wpAnyH_take (i := 6) (v := .pointer (some ⟨b1, o1, none⟩)) rfl (by kernel_rfl) (by kernel_rfl) (by kernel_rfl) (fun _ _ _ h => h) (Or.inl ⟨by kernel_rfl, fun W hW => ?y6⟩) hHeld ?r6
      · go_simp
      refine' wpAnyH_take (i := 7) (v := .agg AM.toArray) rfl (by kernel_rfl) (by kernel_rfl) (by kernel_rfl) (fun _ _ _ h => h) (yieldsIf_load_mid (by kernel_rfl) 38 (.tmp 96) rfl b1 o1 (by go_simp) AM _ (fun W h => (HR18.out W h).2.2.1) Tryz.underlying38 rfl HI38.out) hHeld ?s7
      simp only [List.getElem_toArray, List.getElem_cons_succ, List.getElem_cons_zero, Act.put, List.setIfInBounds_toArray, List.set_cons_zero, List.set_cons_succ]
      refine wpAnyH_ready (rs := [8]) (by kernel_rfl) (by simp) ?_
      refine AllReadyH.cons rfl (fun K hK => ?_) AllReadyH.nil
      go_simp
      refine (HFM.out _ (HK.out _ hHeld).1).mono ?_
      rintro e w13 ⟨vf, rfl, Ff⟩
      obtain ⟨fa2, fl2, fc2, rfl⟩ := Ff.own.form
      refine hK.out _ _ (hHeld.then_no Ff.turn) (fun hHeld => ?_)
      clear hK
      refine wpAnyH_ready (rs := [9]) (by kernel_rfl) (by simp) ?_
      refine AllReadyH.cons rfl (fun K hK => ?_) AllReadyH.nil
      go_simp
      refine (HPA.out _ _ (HK.out _ hHeld).1 Ff.own.bs).mono ?_
      rintro e w14 ⟨rfl, t14⟩
      have R16 := HRN.out.turn ((tX.then_no Ff.turn).then_no t14) (fun q => q)
      refine hK.out _ _ (hHeld.then_no t14) (fun hHeld => ?_)
      clear hK
      refine' wpAnyH_take (i := 10) (v := .tuple #[.agg SA, .int .i64 0]) rfl (by kernel_rfl) (by kernel_rfl) (by kernel_rfl) (fun _ _ _ h => h) (Or.inl ⟨by kernel_rfl, fun W hW => ?y7⟩) hHeld ?r7
      · go_simp
      refine' wpAnyH_take (i := 11) (v := .agg SA) rfl (by kernel_rfl) (by kernel_rfl) (by kernel_rfl) (fun _ _ _ h => h) (Or.inl ⟨by kernel_rfl, fun W hW => ?y8⟩) hHeld ?r8
      · go_simp
      refine' wpAnyH_take (i := 12) (v := .int .i64 0) rfl (by kernel_rfl) (by kernel_rfl) (by kernel_rfl) (fun _ _ _ h => h) (Or.inl ⟨by kernel_rfl, fun W hW => ?y9⟩) hHeld ?r9
      · go_simp
      simp only [List.getElem_toArray, List.getElem_cons_succ, List.getElem_cons_zero, Act.put, List.setIfInBounds_toArray, List.set_cons_zero, List.set_cons_succ]
      refine wpAnyH_ready (rs := [13]) (by kernel_rfl) (by simp) ?_
      refine AllReadyH.cons rfl (fun K hK => ?_) AllReadyH.nil
      rw [if_pos (by rfl)]
      refine wp_store_row 29 _ _ rfl g16 SA rfl rfl 29 NA R16 HIS.out HSZ.out HOS.out ?_
      have TS := hHeld.setRow g16 SA (fun _ => rfl)
      have RS : Row (w14.setRow g16 SA) g16 SA 29 := setRow_heap _ _ _ _ _ _ R16
      have HRE : Shut (Row (w14.setRow g16 SA) g16 SA 29 ∧ Turn (fun q => q = g16) w12 (w14.setRow g16 SA)) := ⟨RS, TS⟩
      refine hK.out _ _ TS (fun hHeld => ?_)
      clear hK
      refine wpAnyH_ready (rs := [14]) (by kernel_rfl) (by simp) ?_
      refine AllReadyH.cons rfl (fun K hK => ?_) AllReadyH.nil
      go_simp
      refine hK.out _ _ HRE.out.2 (fun hHeld => ?_)
      clear hK
      refine wpAnyH_done (by kernel_rfl) ?_ _
      clear hHeld TS RS R16 t14 Ff tX HR18 HFM HPA
      go_wp2_with fail
      go_meet
      case rel => exact HRE
  case rest =>
    obtain ⟨RSc, TCc⟩ := hcut.out
    obtain ⟨T0c, R12c, R14c⟩ := HK.out wc TCc
    obtain ⟨w15, rfl⟩ : ∃ w15 : World, w15 = wc := ⟨_, rfl⟩
    clear hcut TCc HK R12 R7c R14 T12 H18 HR0 HS0
    have hc := HTT.out w15 T0c
    have RLc := (HXR.out w15 T0c).1
    go_upto_region 22 with (first | (guard_target =~ wpList _ _ _ ({ dst := some 104, .. } :: _) _ _; refine wpList_load_row rfl 26 (.tmp 3) rfl w.heap.size rfl 26 LA _ _ RLc Tryz.underlying26 rfl iL ?_) | (go_at_call 13; refine hc.mono ?_; clear hc; rintro e w16 ⟨v5, rfl, F5⟩; obtain ⟨a5, l5, c5, rfl⟩ := F5.own.form; have hc := HSM.out w16 (T0c.then_no F5.turn) _ F5.own.bs) | (go_at_call 12; refine hc.mono ?_; clear hc; rintro e w17 ⟨rfl, t17⟩) | (guard_target =~ wpList _ _ _ ({ dst := _, op := Op.store 29 _ _, .. } :: _) _ _; refine wpList_store_anyN rfl rfl 29 (.tmp 18) (.tmp 106) rfl w17.heap.size RA rfl rfl 29 ZX (Row.new w17 ZX 29) iRR (by rw [zX, sRR]) oRR ?_; intro w18 R18 t18))
    have TT : Turn no w17 w18 := ((((Turn.refl no w17).alloc _).of_no.trans t18 (fun _ _ e => e) : Turn (fun q => q = w17.heap.size) w17 w18).mono (fun i hi e => by
    have e' : i = w17.heap.size := e
    omega))
    have TD := (F5.turn.then_no t17).then_no TT
    have T018 := T0c.then_no TD
    have R12d := R12c.turn TD (fun q => q)
    have R14d := R14c.turn TD (fun q => q)
    have R16d := RSc.turn TD (fun q => q)
    generalize w17.heap.size = g18 at *
    clear t17 t18 TT F5 TD R12c R14c RSc RLc HTT HSM
    have hc := HI1.out w18 T018
    go_upto_region 23 with (first | (guard_target =~ wpList _ _ _ ({ dst := some 107, .. } :: _) _ _; refine wpList_load_row rfl 29 (.tmp 14) rfl g14 rfl 29 TA _ _ R14d Tryz.underlying29 rfl iT ?_) | (guard_target =~ wpList _ _ _ ({ dst := some 108, .. } :: _) _ _; refine wpList_load_row rfl 29 (.tmp 18) rfl g18 rfl 29 RA _ _ R18 Tryz.underlying29 rfl iRR ?_) | (go_at_call 14; refine hc.mono ?_; clear hc; rintro e w19 ⟨z19, rfl, b19, t19⟩))
    have T019 := T018.then_no t19
    have R12e := R12d.turn t19 (fun q => q)
    have R16e := R16d.turn t19 (fun q => q)
    obtain ⟨-, -, rR⟩ := HXC.out w19 T019
    have hc := HI2.out w19 T019
    clear R12d R14d R16d R18 t19
    go_upto_region 24 with (first | (guard_target =~ wpList _ _ _ ({ dst := some 110, .. } :: _) _ _; refine wpList_load_row rfl 29 (.tmp 16) rfl g16 rfl 29 SA _ _ R16e Tryz.underlying29 rfl iS ?_) | (guard_target =~ wpList _ _ _ ({ dst := some 112, .. } :: _) _ _; refine wpList_load_mid rfl 29 (.tmp 111) rfl (w.heap.size + 1) 0 rfl RLs _ rR Tryz.underlying29 rfl iR ?_) | (go_at_call 14; refine hc.mono ?_; clear hc; rintro e w20 ⟨z20, rfl, b20, t20⟩))
    have T020 := T019.then_no t20
    have R12f := R12e.turn t20 (fun q => q)
    have b19 := b19.turn_no t20
    have c19 := HCP.out w20 z19 b19
    have c20 := HCQ.out w20 z20 b20
    have hqq := hTl.out
    have HT20 := shut T020
    clear R12e R16e rR t20 HI1 HI2
    cases q1 with
    | false =>
      have hc1 : cl1 = true := hcl.out rfl
      subst hc1
      have hc := HCL.out w20 T020 z19 z20 b19 b20
      go_wp2_with (go_at_call 15; refine hc.mono ?_; clear hc; rintro e w21 ⟨rfl, t21⟩)
      go_ret
      exact ⟨rfl, HT0.out.then_no (HT20.out.then_no t21)⟩
    | true =>
      have HPE : Shut PE := hEQ.out (by trivial)
      obtain ⟨z32, z33, -⟩ := HXC.out w20 T020
      clear hcl HCL
      go_upto_if 125 with fail
      clear z32 z33 c19 c20 hqq b19 b20
      go_cut [21, 22, 125] from 126 (fun c d f wx => Shut ((n = 0 → l = []) ∧ Turn no w20 wx))
      case first =>
        by_cases hz : n = 0
        · have hzb : ((n : Int) == 0) = true := by simp; omega
          have hLz := HNZ.out hz
          have HCLZ : Shut (q2 = false → cl2 = true) := fun q => hcl2.out hLz HPE.out q
          have hc := HP0.out w20 T020
          clear hcl2 hLz hz
          go_upto_region 28 with (first | (go_at_call 17; refine hc.mono ?_; clear hc; rintro e w21 ⟨rfl, t21⟩; have hc := HT1.out w21) | (go_at_call 16; refine hc.mono ?_; clear hc; rintro e w22 ⟨z21, rfl, b21, t22⟩))
          have T2022 := t21.then_no t22
          have T022 := T020.then_no T2022
          have HRL : Shut (∀ W, Turn no w22 W → Row W w.heap.size LA 26) := fun W t => (HXR.out W (T022.then_no t)).1
          obtain ⟨LAL, eLA⟩ : ∃ M : List Value, Shut (LA = M.toArray) := ⟨LA.toList, (Array.toArray_toList).symm⟩
          have HILA : Shut ((Tryz.prog.info? 26).map (·.size) = some LAL.length) := by show _ = _; rw [← List.size_toArray, ← eLA.out]; exact iL
          have HV0 := shut hv0
          have T022s := shut T022
          clear t21 t22 iL hv0
          refine wp_region_held_drew (S := fun W => Turn no w22 W) (by kernel_rfl) (Turn.refl no w22).drew (fun hHeld => ?_)
          refine' wpAnyH_take (i := 0) (v := .pointer (some ⟨w.heap.size, 0, none⟩)) rfl (by kernel_rfl) (by kernel_rfl) (by kernel_rfl) (fun _ _ _ h => h) (Or.inl ⟨by kernel_rfl, fun W hW => ?y10⟩) hHeld ?r10
          · go_simp
          refine' wpAnyH_take (i := 1) (v := .slice adl l.length capl) rfl (by kernel_rfl) (by kernel_rfl) (by kernel_rfl) (fun _ _ _ h => h) (Or.inl ⟨by kernel_rfl, fun W hW => ?y11⟩) hHeld ?r11
          · have cc := (HRL.out W hW).cell 0 _ HV0.out
            go_simp
          refine' wpAnyH_take (i := 2) (v := .int .i64 l.length) rfl (by kernel_rfl) (by kernel_rfl) (by kernel_rfl) (fun _ _ _ h => h) (Or.inl ⟨by kernel_rfl, fun W hW => ?y12⟩) hHeld ?r12
          · go_simp
          refine' wpAnyH_take (i := 3) (v := .agg LAL.toArray) rfl (by kernel_rfl) (by kernel_rfl) (by kernel_rfl) (fun _ _ _ h => h) (yieldsIf_load_mid (by kernel_rfl) 26 (.tmp 3) rfl w.heap.size 0 (by go_simp) LAL _ (fun W h => rowL (by rw [← eLA.out]; exact HRL.out W h)) Tryz.underlying26 rfl HILA.out) hHeld ?s3b
          simp only [List.getElem_toArray, List.getElem_cons_succ, List.getElem_cons_zero, Act.put, List.setIfInBounds_toArray, List.set_cons_zero, List.set_cons_succ]
          refine wpAnyH_ready (rs := [4]) (by kernel_rfl) (by simp) ?_
          refine AllReadyH.cons rfl (fun K hK => ?_) AllReadyH.nil
          go_simp
          rw [← eLA.out]
          refine (HFO.out _ (T022s.out.then_no hHeld)).mono ?_
          rintro e w23 ⟨fa, fc, its, rfl, B23, q23, t23⟩
          refine hK.out _ _ (hHeld.then_no t23) (fun hHeld => ?_)
          clear hK
          refine wpAnyH_ready (rs := [5]) (by kernel_rfl) (by simp) ?_
          refine AllReadyH.cons rfl (fun K hK => ?_) AllReadyH.nil
          go_simp
          refine (HP1.out _ (T022s.out.then_no hHeld) fa fc its (B23 _ (Turn.refl _ _)) q23).mono ?_
          rintro e w24 ⟨rfl, t24⟩
          refine hK.out _ _ (hHeld.then_no t24) (fun hHeld => ?_)
          clear hK
          refine wpAnyH_ready (rs := [6]) (by kernel_rfl) (by simp) ?_
          refine AllReadyH.cons rfl (fun K hK => ?_) AllReadyH.nil
          go_simp
          refine (HT2.out _).mono ?_
          rintro e w25 ⟨z22, rfl, b22, t25⟩
          refine hK.out _ _ (hHeld.then_no t25) (fun hHeld => ?_)
          clear hK
          refine wpAnyH_ready (rs := [7]) (by kernel_rfl) (by simp) ?_
          refine AllReadyH.cons rfl (fun K hK => ?_) AllReadyH.nil
          go_simp
          have T2225 := shut hHeld
          refine hK.out _ _ hHeld (fun hHeld => ?_)
          clear hK
          refine wpAnyH_done (by kernel_rfl) ?_ _
          have T025 := T022s.out.then_no T2225.out
          have HT25 : Shut (Turn no w20 w25) := T2022.then_no T2225.out
          have b21 := b21.turn_no T2225.out
          have c21 := HCA.out w25 z21 b21
          have c22 := HCB.out w25 z22 b22
          have hqq := hTl2.out
          clear hHeld t23 t24 t25 B23 q23 HRL T2022
          cases q2 with
          | false =>
            have hc1 : cl2 = true := HCLZ.out rfl
            subst hc1
            have hc := HC2.out w25 T025 z21 z22 b21 b22
            go_wp2_with (go_at_call 15; refine hc.mono ?_; clear hc; rintro e w26 ⟨rfl, t26⟩)
            go_ret
            exact ⟨rfl, HT0.out.then_no (HT20.out.then_no (HT25.out.then_no t26))⟩
          | true =>
            have hln : l = [] := HNI.out (by trivial)
            have HRE : Shut ((n = 0 → l = []) ∧ Turn no w20 w25) := ⟨fun _ => hln, HT25.out⟩
            clear hln
            go_wp2_with fail
            go_meet
            case rel => exact HRE
        · have hzb : ((n : Int) == 0) = false := by simp; omega
          go_wp2_with fail
          go_meet
          case rel => exact ⟨fun q => absurd q hz, Turn.refl _ _⟩
      case rest =>
        obtain ⟨w26, rfl⟩ : ∃ w26 : World, w26 = wc := ⟨_, rfl⟩
        have HLE := hcut.out.1
        have T026 := T020.then_no hcut.out.2
        have R12g := R12f.turn hcut.out.2 (fun q => q)
        have RLg := (HXR.out w26 T026).1
        have RWg := (HXR.out w26 T026).2
        have hc := HBE.out HPE.out w26 T026
        clear hcut R12f HBE
        go_upto_region 32 with (first | (guard_target =~ wpList _ _ _ ({ dst := some 144, .. } :: _) _ _; refine wpList_load_row rfl 26 (.tmp 3) rfl w.heap.size rfl 26 LA _ _ RLg Tryz.underlying26 rfl iL ?_) | (guard_target =~ wpList _ _ _ ({ dst := some 145, .. } :: _) _ _; refine wpList_load_row rfl 32 (.tmp 5) rfl (w.heap.size + 1) rfl 32 WA _ _ RWg Tryz.underlying32 rfl iW ?_) | (go_at_call 18; refine hc.mono ?_; clear hc; rintro e w27 ⟨sB, cB, rfl, hsc, t27⟩; have HSC := shut hsc; clear hsc))
        have T027 := T026.then_no t27
        have R12h := R12g.turn t27 (fun q => q)
        have RLh := RLg.turn t27 (fun q => q)
        have HTw := shut (HT0.out.then_no T027)
        clear R12g RLg RWg t27
        cases sB with
        | false =>
          have hcB : cB = true := by have := HSC.out.1; simpa using this
          subst hcB
          clear HSC
          go_wp2_with fail
          go_ret
          exact ⟨rfl, HTw.out⟩
        | true =>
          have HVPx := HVP.out (HSC.out.2 rfl) (fun q => HLE (by rw [← hnL.out, q]; rfl))
          have hc := HFI.out m1 f1 HVPx w27 T027
          rw [HMA.out] at hc
          clear HSC HVP HFI HVPx HLE
          go_upto_region 35 with (first | (guard_target =~ wpList _ _ _ ({ dst := some 153, .. } :: _) _ _; refine wpList_load_row rfl 26 (.tmp 3) rfl w.heap.size rfl 26 LA _ _ RLh Tryz.underlying26 rfl iL ?_) | (go_at_call 19; refine hc.mono ?_; clear hc; rintro e w28 ⟨kk, rfl, hkk, t28⟩) | (guard_target =~ wpList _ _ _ ({ dst := _, op := Op.store 38 _ _, .. } :: _) _ _; refine wpList_store_anyN rfl rfl 38 (.tmp 25) (.tmp 156) rfl w28.heap.size MA rfl rfl 38 AZ (Row.new w28 AZ 38) iM sM oM ?_; intro w29 R29 t29))
          have TT : Turn no w28 w29 := ((((Turn.refl no w28).alloc _).of_no.trans t29 (fun _ _ e => e) : Turn (fun q => q = w28.heap.size) w28 w29).mono (fun i hi e => by
    have e' : i = w28.heap.size := e
    omega))
          have TE := t28.then_no TT
          have R12i := R12h.turn TE (fun q => q)
          have HTz := shut (HTw.out.then_no TE)
          generalize w28.heap.size = g25 at *
          have hQ := HQM.out
          obtain ⟨MAL, eMA⟩ : ∃ M : List Value, MA = M.toArray := ⟨MA.toList, (Array.toArray_toList).symm⟩
          have iMA : (Tryz.prog.info? 38).map (·.size) = some MAL.length := by rw [← List.size_toArray, ← eMA]; exact iM
          clear t28 t29 TT TE R12h RLh HMA iM sM oM HQM
          subst eMA
          have r12 := rowL R12i
          have r25 := rowL R29
          clear R12i R29
          rcases hkk with ⟨rfl, rfl⟩ | ⟨rfl, rfl⟩
          · go_wp2_with (first | (guard_target =~ wpList _ _ _ ({ dst := some 163, .. } :: _) _ _; refine wpList_load_midG (by kernel_rfl) 38 (.tmp 12) rfl g12 0 rfl MAL _ r12 Tryz.underlying38 rfl iMA ?_) | (guard_target =~ wpList _ _ _ ({ dst := some 164, .. } :: _) _ _; refine wpList_load_midG (by kernel_rfl) 38 (.tmp 25) rfl g25 0 rfl MAL _ r25 Tryz.underlying38 rfl iMA ?_))
            go_ret
            exact ⟨rfl, HTz.out⟩
          · go_wp2_with (first | (guard_target =~ wpList _ _ _ ({ dst := some 163, .. } :: _) _ _; refine wpList_load_midG (by kernel_rfl) 38 (.tmp 12) rfl g12 0 rfl MAL _ r12 Tryz.underlying38 rfl iMA ?_) | (guard_target =~ wpList _ _ _ ({ dst := some 164, .. } :: _) _ _; refine wpList_load_midG (by kernel_rfl) 38 (.tmp 25) rfl g25 0 rfl MAL _ r25 Tryz.underlying38 rfl iMA ?_))
            go_ret
            exact ⟨rfl, HTz.out⟩
end Go.Proofs.YtlacfenenbblaaaGreatDoor
