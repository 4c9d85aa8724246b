/- listKept. -/
import Derived.Test.YtnibmkenbidnfabDoorK12
namespace Go.Proofs.YtnibmkenbidnfabDoor
open Go.RowKit
set_option linter.unusedVariables false

theorem kept_q (W : World) (x : Nat) (vf va : Value) (bs : List UInt8) (hf : Bs W vf (bs ++ [201, 202])) (hb : Bs W va bs) (hsz : bs.length + 2 ≤ 140737488355328) : Calls Tryd.prog 35 #[vf, va] (W.drewN x) fun e w' => e = .returned (.bool true) ∧ ∃ m, w' = W.drewN m :=
  (kept_any _ vf va bs (hf.turn_no ((Turn.refl no W).drewN _)) (hb.turn_no ((Turn.refl no W).drewN _)) hsz).mono (fun _ _ ⟨q1, m, q2⟩ => ⟨q1, x + m, by rw [q2]; simp⟩)
theorem Bs.front {w : World} {g n cap : Nat} {bs cs : List UInt8} (h : Bs w (.slice (some ⟨g, 0, none⟩) n cap) (bs ++ cs)) : Bs w (.slice (some ⟨g, 0, none⟩) bs.length cap) bs := by
  rcases h with ⟨q, _⟩ | ⟨a, c, q, h1, h2, h3⟩
  · cases q
  · cases q
    refine Or.inr ⟨_, _, rfl, by simp at h1; omega, h2, fun j u hu => h3 j u ?_⟩
    have hj := (List.getElem?_eq_some_iff.1 hu).1
    rw [List.getElem?_append_left hj]
    exact hu
set_option maxRecDepth 100000 in
set_option maxHeartbeats 8000000 in
theorem keptL17 (w : World) (l : Its) (a : Option Addr) (ca : Nat) (hA : BlAt w a ca l) (hsz : ∀ x ∈ l, x.2.length + 2 ≤ 140737488355328) (hn : (l.length + 2) * 24 ≤ 140737488355328) (B : Nat) (vf vl : Value) (fs ls : List Value) (m1 m2 : Value) (R : Ro B w vf vl l fs (ls ++ [m1, m2])) (hfs : fs.length = l.length) (hls : ls.length = l.length) (h1 : Bs w m1 [109, 97, 114, 107]) (h2 : Bs w m2 [109, 97, 114, 107]) :
    Calls Tryd.prog 17 #[vf, vl, .slice a l.length ca] w fun e w' => e = .returned (.bool true) ∧ Turn no w w' := by
  have HA := shut hA
  have HS := shut hsz
  have HR := shut R
  obtain ⟨n, hln⟩ : ∃ n, Hid (l.length = n) := ⟨_, rfl⟩
  have hln' := hln.out
  rw [hln'] at hn hfs hls ⊢
  have hcv1 := bytes_text h1
  have hcv2 := bytes_text h2
  obtain ⟨m1a, m1c, hm1⟩ := h1.slice
  obtain ⟨m2a, m2c, hm2⟩ := h2.slice
  have hm1 : m1 = .slice m1a 4 m1c := hm1
  have hm2 : m2 = .slice m2a 4 m2c := hm2
  have hlen : (ls ++ [m1, m2]).length = n + 2 := by simp [hls]
  rcases R.ol.shape with ⟨_, q⟩ | ⟨gl, cl, cur, hv, _, hle, hcm, _⟩
  · rw [q] at hlen; simp at hlen
  rw [hlen] at hv hle
  subst hv
  have c1 : w.cell? ⟨gl, n, none⟩ = some m1 := R.ol.cell n m1 (by rw [List.getElem?_append_right (by omega), hls]; simp)
  have c2 : w.cell? ⟨gl, n + 1, none⟩ = some m2 := R.ol.cell (n + 1) m2 (by rw [List.getElem?_append_right (by omega), hls]; simp)
  obtain ⟨fa, fn, fc, rfl⟩ := R.of.form
  have l1 : (n : Int) < ((n + 2 : Nat) : Int) := by omega
  have l2 : (n : Int) + 1 < ((n + 2 : Nat) : Int) := by omega
  have l3 : ((n + 2 : Nat) : Int) = (n : Int) + 2 := by omega
  subst hm1
  subst hm2
  clear hA hsz hln' R h1 h2 hlen hle hcm
  go_enter Tryd.func17, Tryd.ntmps17
  go_wp2_with fail
  clear c1 c2 hcv1 hcv2
  go_loopw [8] (fun c wr => ∃ i : Nat, i ≤ n ∧ c = .int .i64 i ∧ Shut (Turn no w wr)) (fun c _ => n - (intOf c).toNat)
  case atStart => exact ⟨0, by omega, rfl, Turn.refl _ _⟩
  case round =>
    obtain ⟨i, hi, rfl, HT⟩ := hrel
    by_cases hlt : i < n
    · obtain ⟨⟨xv, xb⟩, hx⟩ : ∃ x, l[i]? = some x := ⟨l[i]'(by rw [hln.out]; exact hlt), List.getElem?_eq_getElem _⟩
      obtain ⟨b, o, rfl, hP⟩ := HA.out.pcs.resolve_left (by rintro rfl; simp at hx)
      obtain ⟨c0, b0⟩ := (hP.turn_no HT.out) i _ hx
      simp only at c0 b0
      have hxl : xb.length + 2 ≤ 140737488355328 := HS.out _ (List.mem_of_getElem? hx)
      have Rr := HR.out.turn_no HT.out
      obtain ⟨g, cp, f1, f2, O, _⟩ := Rr.tx i _ hx
      simp only at f1 f2 O
      have hfp : 0 < fs.length := by rw [hfs]; omega
      rcases Rr.of.shape with ⟨_, q⟩ | ⟨gf, cf, cur, hv, _, hle, hcm, _⟩
      · rw [q] at hfp; simp at hfp
      rw [hfs] at hv hle
      cases hv
      have d1 : wr.cell? ⟨gf, i, none⟩ = some (.slice (some ⟨g, 0, none⟩) (xb.length + 2) cp) := Rr.of.cell i _ f1
      have d2 : wr.cell? ⟨gl, i, none⟩ = some (.slice (some ⟨g, 0, none⟩) xb.length cp) := Rr.ol.cell i _ f2
      have B1 : Bs wr (.slice (some ⟨g, 0, none⟩) (xb.length + 2) cp) (xb ++ [201, 202]) := O.bs
      have B2 := B1.front
      have HK : Shut (∀ x, Calls Tryd.prog 35 #[.slice (some ⟨g, 0, none⟩) (xb.length + 2) cp, xv] (wr.drewN x) fun e w' => e = .returned (.bool true) ∧ ∃ m, w' = wr.drewN m) := fun x => kept_q wr x _ _ xb B1 b0 hxl
      have hcv1 := fun x => bytes_text (B2.turn_no ((Turn.refl no wr).drewN x))
      have hcv2 := fun x => bytes_text (b0.turn_no ((Turn.refl no wr).drewN x))
      have hlt' : (i : Int) < (n : Int) := by omega
      have hlt2 : (i : Int) < ((n + 2 : Nat) : Int) := by omega
      obtain ⟨xa, xc, rfl⟩ := b0.slice
      generalize (⟨xb.toArray⟩ : ByteArray) = tx at *
      generalize hk2 : xb.length + 2 = k2 at *
      clear hk2
      generalize xb.length = k1 at *
      clear hP hx b0 hxl Rr O B1 B2 f1 f2 hle hcm
      go_wp2_with fail
      go_quiet ((first | (go_at_call 35; exact HK.out _)))
      have HN := shut (HT.out.drewN nq)
      clear HK hcv1 hcv2 d1 d2 c0
      go_wp2_with fail
      go_roundw
      case rel => exact ⟨i + 1, by omega, by go_num, HN⟩
      case measure => simp [intOf]; omega
    · have hlt' : ¬ (i : Int) < (n : Int) := by omega
      go_wp2_with fail
      go_ret
      exact ⟨rfl, HT.out⟩
end Go.Proofs.YtnibmkenbidnfabDoor
