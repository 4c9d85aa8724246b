/- Beside; the walk of DigestBinds. -/
import Derived.Test.YtlacfenenbblaaaGreatDoorK6
namespace Go.Proofs.YtlacfenenbblaaaGreatDoor
open Go.RowKit
set_option linter.unusedVariables false

theorem numE_len8 (t : Nat) (X : List UInt8) (hx : X.length = 32) : (2 :: (numE t ++ X)).length = 41 := by simp [numE_len, hx]
set_option maxRecDepth 100000 in
set_option maxHeartbeats 8000000 in
theorem beside12 (w : World) (l : Its) (al : Option Addr) (ca : Nat) (hB : BlAt w al ca l) (hol : okL l) (tn ix : Nat) (A : List (List UInt8)) (a : Option Addr) (cap : Nat) (hH : HsAt w a cap A) (u : Value) (y : List UInt8) (hb : Bs w u y) (hy : y.length ≤ 1048576) (h1 : 1 ≤ tn) (h65 : tn ≤ 65536) (hix : ix < tn) (hA : A.length = stepsN tn ix)
    (hh : hashOf (rootT l) = hashOf (2 :: (numE tn ++ leadH tn ix A y))) (hl : Laid0 w) (h2 : 2 ≤ w.heap.size) :
    Calls Tryz.prog 41 #[.slice al l.length ca, .agg #[.int .i64 tn, .int .i64 ix, .slice a A.length cap], u] w fun e w' => Sc (tn = l.length ∧ (txs l)[ix]? = some y) w e w' := by
  obtain ⟨PX, hPX⟩ : ∃ P : Prop, P = (tn = l.length ∧ (txs l)[ix]? = some y) := ⟨_, rfl⟩
  rw [← hPX]
  have lx := leadH_len tn ix A y
  have sX := hb32_size lx
  have oX := hb32_one (leadH tn ix A y)
  have iX := hb32_info lx
  have LD : Shut (∀ W, Turn no w W → Calls Tryz.prog 70 #[.int .i64 tn, .int .i64 ix, .slice a A.length cap, u] W fun e w' => e = .returned (.agg (hb32 (leadH tn ix A y))) ∧ Turn no W w') := fun W T => lead30 W tn ix A a cap u y h1 h65 hix hA (hH.turn_no T) (hb.turn_no T) hy (hl.turn T (fun q => q)) (by have := T.size; omega)
  have T1 : Shut (∀ W, Turn no w W → Calls Tryz.prog 17 #[.slice al l.length ca] W fun e w' => e = .returned (.agg (hb32 (topH (txs l)))) ∧ Turn no W w') := fun W T => rtop_all (hB.turn_no T) hol (hl.turn T (fun q => q)) (by have := T.size; omega)
  have X1 : Shut (∀ W, Turn no w W → Calls Tryz.prog 16 #[.int .i64 l.length, .agg (hb32 (topH (txs l)))] W fun e w' => ∃ v, e = .returned v ∧ Bs w' v (rootT l) ∧ Turn no W w') := fun W T => (rootText_any W l.length hol.1 (topH (txs l)) (topH_len _)).mono (fun e w' ⟨v, e1, o, t⟩ => ⟨v, e1, o.bs, t⟩)
  have X2 : Shut (∀ W, Turn no w W → Calls Tryz.prog 16 #[.int .i64 tn, .agg (hb32 (leadH tn ix A y))] W fun e w' => ∃ v, e = .returned v ∧ Bs w' v (2 :: (numE tn ++ leadH tn ix A y)) ∧ Turn no W w') := fun W T => (rootText_any W tn h65 _ lx).mono (fun e w' ⟨v, e1, o, t⟩ => ⟨v, e1, o.bs, t⟩)
  have l41 := numE_len8 tn _ lx
  have CL : Shut (∀ W, Turn no w W → ∀ z z', Bs W z (rootT l) → Bs W z' (2 :: (numE tn ++ leadH tn ix A y)) → Calls Tryz.prog 15 #[z, z'] W fun e w' => e = .returned (.bool (clB (rootT l) (2 :: (numE tn ++ leadH tn ix A y)))) ∧ Turn no W w') := fun W T z z' q1 q2 => clash26 W z z' _ _ q1 q2 (by rw [rootT_len]; omega) (by rw [l41]; omega) (hl.turn T (fun q => q)) (by have := T.size; omega)
  have DN : Shut ((rootT l == 2 :: (numE tn ++ leadH tn ix A y)) = true → ∀ W, Turn no w W → Calls Tryz.prog 71 #[.slice al l.length ca, .int .i64 ix, .slice a A.length cap, u] W fun e w' => Sc PX W e w') := fun q W T => by
    have e : rootT l = 2 :: (numE tn ++ leadH tn ix A y) := by simpa using q
    unfold rootT at e
    simp only [List.cons.injEq, true_and] at e
    obtain ⟨e1, e2⟩ := List.append_inj e (by rw [numE_len, numE_len])
    have hn := numE_inj hol.1 h65 e1
    rcases hB.pcs with q0 | ⟨b, o, rfl, p⟩
    · rw [q0] at hn; simp at hn; omega
    · have := down31 l.length l b o ca ix A a cap u y W rfl (p.turn_no T) hB.le hB.cap (by omega) hol (by omega) (by rw [hn]; exact hA) (hH.turn_no T) (hb.turn_no T) hy (by rw [hn]; exact e2) (hl.turn T (fun q => q)) (by have := T.size; omega)
      exact this.mono (fun e w' z => Sc.imp (P' := PX) z (fun h => by rw [hPX]; exact ⟨hn.symm, h⟩))
  have hq : Shut (((⟨(rootT l).toArray⟩ : ByteArray).toList == (⟨(2 :: (numE tn ++ leadH tn ix A y)).toArray⟩ : ByteArray).toList) = (rootT l == 2 :: (numE tn ++ leadH tn ix A y))) := by show _ = _; rw [text_list, text_list]
  have hcl : Shut ((rootT l == 2 :: (numE tn ++ leadH tn ix A y)) = false → clB (rootT l) (2 :: (numE tn ++ leadH tn ix A y)) = true) := fun q => clB_root q hh
  have HX : Shut (∀ W v, Bs W v (rootT l) → (convert 48 9 v).run Tryz.prog W = .ok (.string ⟨(rootT l).toArray⟩) W) := fun W v q => bytes_text q
  have HY : Shut (∀ W v, Bs W v (2 :: (numE tn ++ leadH tn ix A y)) → (convert 48 9 v).run Tryz.prog W = .ok (.string ⟨(2 :: (numE tn ++ leadH tn ix A y)).toArray⟩) W) := fun W v q => bytes_text q
  have hZ := hb32_size z32_len
  have hzv := zero35v
  obtain ⟨ua, uc, rfl⟩ := hb.slice
  obtain ⟨w0, hw0⟩ : ∃ w0, w.alloc (.cells #[.int .i64 tn, .int .i64 ix, .slice a A.length cap] 47) = w0 := ⟨_, rfl⟩
  have S0 : Turn no w w0 := by rw [← hw0]; exact (Turn.refl no w).alloc _
  have RP : Row w0 w.heap.size #[.int .i64 tn, .int .i64 ix, .slice a A.length cap] 47 := by rw [← hw0]; exact Row.new w _ 47
  clear hB hol hH hb hh hl hy h65 hix hA lx l41 hPX
  generalize clB (rootT l) (2 :: (numE tn ++ leadH tn ix A y)) = cl at *
  generalize (⟨(rootT l).toArray⟩ : ByteArray) = tx at *
  generalize (⟨(2 :: (numE tn ++ leadH tn ix A y)).toArray⟩ : ByteArray) = ty at *
  generalize (rootT l == 2 :: (numE tn ++ leadH tn ix A y)) = q1 at *
  generalize rootT l = TX at *
  generalize 2 :: (numE tn ++ leadH tn ix A y) = TY at *
  generalize hb32 (topH (txs l)) = HL at *
  generalize hb32 (leadH tn ix A y) = XA at *
  generalize hb32 z32 = Z at *
  generalize l.length = n at *
  generalize A.length = L at *
  generalize y.length = m at *
  have p0 := RP.cell 0 _ rfl
  have p1 := RP.cell 1 _ rfl
  have p2 := RP.cell 2 _ rfl
  have ld := LD.out w0 S0
  go_enter Tryz.func41, Tryz.ntmps41
  go_upto_region 1 with fail
  try rw [hw0]
  clear hw0
  go_upto_region 2 with (first | (go_at_call 70; refine ld.mono ?_; clear ld; rintro e w1 ⟨rfl, s1⟩) | (guard_target =~ wpList _ _ _ ({ dst := _, op := Op.store 29 _ _, .. } :: _) _ _; refine wpList_store_anyN rfl rfl 29 (.tmp 8) (.tmp 19) rfl _ XA rfl rfl 29 Z (Row.new _ Z 29) iX (by rw [hZ, sX]) oX ?_; intro w2 RX s2))
  have T12 : Turn (fun q => q = w1.heap.size) w1 w2 := ((Turn.refl no w1).alloc _).of_no.trans s2 (fun _ _ e => e)
  have T02 := s1.trans T12 (fun i hi e => by have := s1.size; omega)
  have S2 := S0.then_no T02
  have RP2 := Row.turn RP T02 (fun q => q)
  have t1 := T1.out w2 S2
  clear T12 T02 s1 s2 p0 p1 p2 RP hzv
  generalize w1.heap.size = g8 at *
  go_upto_region 3 with (first | (go_at_call 17; refine t1.mono ?_; clear t1; rintro e w3 ⟨rfl, s3⟩; have x1 := X1.out w3 (S2.then_no s3)) | (go_at_call 16; refine x1.mono ?_; clear x1; rintro e w4 ⟨z9, rfl, b9, s4⟩))
  have S24 := s3.then_no s4
  have S4 := S2.then_no S24
  have RX4 := Row.turn RX S24 (fun q => q)
  have RP4 := Row.turn RP2 S24 (fun q => q)
  have p0 := Row.cell RP4 0 _ rfl
  have x2 := X2.out w4 S4
  clear s3 s4 S24 RX RP2 S2
  go_upto_region 4 with (first | (guard_target =~ wpList _ _ _ ({ dst := _, op := Op.load 29 _, .. } :: _) _ _; refine wpList_load_row rfl 29 (.tmp 8) rfl g8 rfl 29 XA _ _ RX4 Tryz.underlying29 rfl iX ?_) | (go_at_call 16; refine x2.mono ?_; clear x2; rintro e w5 ⟨z10, rfl, b10, s5⟩))
  have S5 := S4.then_no s5
  have b9 := b9.turn_no s5
  have RP5 := Row.turn RP4 s5 (fun q => q)
  have c9 := HX.out w5 z9 b9
  have c10 := HY.out w5 z10 b10
  have hqq := hq.out
  clear p0 s5 S4 RX4 RP4
  cases q1 with
  | false =>
    have hc1 := shut (hcl.out rfl)
    have k1 := CL.out w5 S5 z9 z10 b9 b10
    go_wp2_with (go_at_call 15; refine k1.mono ?_; clear k1; rintro e w6 ⟨rfl, s6⟩)
    go_ret2
    exact Sc.mk false cl rfl ⟨by rw [hc1.out]; rfl, fun h => by cases h⟩ (S5.then_no s6)
  | true =>
    have k1 := DN.out rfl w5 S5
    have p1 := Row.cell RP5 1 _ rfl
    have p2 := Row.cell RP5 2 _ rfl
    go_wp2_with (go_at_call 71; refine k1.mono ?_; clear k1; rintro e w6 h6; obtain ⟨s, c, rfl, hsc, s6⟩ := h6; have HSC := shut hsc; clear hsc)
    go_ret2
    exact Sc.mk s c rfl HSC.out (S5.then_no s6)
theorem verE_zero {rt : List UInt8} {t i : Int} {A : List (List UInt8)} {x : List UInt8} (h : verE rt t i A x = 0) : x.length ≤ 1048576 ∧ fitsB t i A.length = true ∧ hashOf (2 :: (numE t.toNat ++ leadH t.toNat i.toNat A x)) = rt := by
  have hp : pathE t i A.length x.length = 0 := by
    by_cases q : pathE t i A.length x.length = 0
    · exact q
    · unfold verE at h
      rw [if_pos q] at h
      exact absurd h q
  have hx : x.length ≤ 1048576 := by
    unfold pathE at hp
    split at hp
    · cases hp
    · omega
  have hf : fitsB t i A.length = true := by
    unfold pathE at hp
    rw [if_neg (by omega)] at hp
    split at hp
    · assumption
    · cases hp
  refine ⟨hx, hf, ?_⟩
  unfold verE at h
  rw [if_neg (by simpa using hp)] at h
  split at h
  · next e =>
    unfold pathH at e
    rw [if_pos hp] at e
    exact e
  · cases h
theorem verE_some {rt : List UInt8} {t i : Int} {A : List (List UInt8)} {x : List UInt8} (h : ¬ verE rt t i A x = 0) : verE rt t i A x = 4 ∨ verE rt t i A x = 20 ∨ verE rt t i A x = 21 := by
  by_cases h1 : 1048576 < x.length
  · have e : pathE t i A.length x.length = 4 := if_pos h1
    unfold verE
    rw [e]
    exact .inl rfl
  · by_cases h2 : fitsB t i A.length = true
    · have e : pathE t i A.length x.length = 0 := by unfold pathE; rw [if_neg h1, if_pos h2]
      unfold verE at h ⊢
      rw [e] at h ⊢
      by_cases h3 : pathH t i A x = rt
      · rw [if_pos h3] at h
        exact absurd rfl h
      · rw [if_neg h3]
        exact .inr (.inr rfl)
    · have e : pathE t i A.length x.length = 20 := by unfold pathE; rw [if_neg h1, if_neg h2]
      unfold verE
      rw [e]
      exact .inr (.inl rfl)
end Go.Proofs.YtlacfenenbblaaaGreatDoor

