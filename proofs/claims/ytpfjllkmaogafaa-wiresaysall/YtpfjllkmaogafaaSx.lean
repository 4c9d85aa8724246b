/- Sa to Se in one: votes with their seals; alive; the walk of WireHeard. -/
import Derived.Test.YtpfjllkmaogafaaRe
import Derived.Test.YtpfjllkmaogafaaPa
/- Votes with their seals: read. -/
namespace Go.Proofs.Ytpfjllkmaogafaa
open Go.RowKit
set_option linter.unusedVariables false

set_option maxRecDepth 100000 in
set_option maxHeartbeats 1000000 in
theorem sealRaw94 {w : World} {p : Nat} {v : Value} {bs : List UInt8} {i : Nat} {e0 : Int} (h : Rd w p v bs i e0) (hle : bs.length ≤ 140737488355328) : Calls Try.prog 94 #[.func (.func 124) #[.pointer (some ⟨p, 0, none⟩)] #[]] w fun e w' => e = .returned (.agg ((pad 16 (gR bs i e0 16).1).map bv).toArray) ∧ Rd w' p v bs (gR bs i e0 16).2.1 (gR bs i e0 16).2.2 ∧ Turn (fun k => k = p) w w' := by
  have hlt := h.lt
  have hL : (gR bs i e0 16).1.length ≤ 16 := gR_len bs i e0 16
  have C := fun W (hW : Rd W p v bs i e0) => raw124 hW 16 (by omega) hle
  generalize gR bs i e0 16 = r at *
  have hSs : ((pad 16 r.1).map bv).toArray.size = 16 := by simp [pad_len 16 r.1 hL]
  have hSi : (Try.prog.info? 25).map (·.size) = some ((pad 16 r.1).map bv).toArray.size := by rw [hSs]; kernel_rfl
  have hSo := pad_one 16 r.1
  go_enter Try.func94, Try.ntmps94
  go_wp2_with fail
  obtain ⟨Z, hZ, hZ1⟩ : ∃ Z : Array Value, Z = #[.int .u8 0, .int .u8 0, .int .u8 0, .int .u8 0, .int .u8 0, .int .u8 0, .int .u8 0, .int .u8 0, .int .u8 0, .int .u8 0, .int .u8 0, .int .u8 0, .int .u8 0, .int .u8 0, .int .u8 0, .int .u8 0] ∧ Z = (List.replicate 16 (bv 0)).toArray := ⟨_, rfl, rfl⟩
  rw [← hZ]
  clear hZ
  have hZs : Z.size = 16 := by rw [hZ1]; rfl
  have hA := Row.new w Z 25
  have hB := Row.newAt (w.alloc (.cells Z 25)) Z 25 (w.heap.size + 1) (by simp)
  have hA2 := hA.alloc (.cells Z 25)
  have T2 : Turn no w ((w.alloc (.cells Z 25)).alloc (.cells Z 25)) := ((Turn.refl no w).alloc _).alloc _
  have hsz : ((w.alloc (.cells Z 25)).alloc (.cells Z 25)).heap.size = w.heap.size + 2 := by simp
  clear hA
  generalize (w.alloc (.cells Z 25)).alloc (.cells Z 25) = w2 at *
  have hR2 := h.turn_no T2
  have hown : ∀ b, v.ownBlock = some b → b < w.heap.size := fun b q => h.own.lt q
  generalize hg : w.heap.size = g at *
  have HC : Hid (∀ W, Rd W p v bs i e0 → Calls Try.prog 124 #[.pointer (some ⟨p, 0, none⟩), .int .i64 16] W fun e w' => ∃ v', e = .returned v' ∧ Own w' 5 v' (r.1.map bv) ∧ (∀ g, v'.ownBlock = some g → W.heap.size ≤ g) ∧ Rd w' p v bs r.2.1 r.2.2 ∧ Turn (fun k => k = p) W w') := C
  have HR2 : Hid (Rd w2 p v bs i e0) := hR2
  clear C hR2
  refine wp_region_held_drew (S := fun W => Turn (fun k => k = p ∨ k = g + 1) w2 W) (by kernel_rfl) (Turn.refl _ w2).drew (fun hHeld => ?_)
  refine' wpAnyH_take (i := 0) (v := .slice (some ⟨g + 1, 0, none⟩) 16 16) rfl (by kernel_rfl) (by kernel_rfl) (by kernel_rfl) (fun _ _ _ h => h) (Or.inl ⟨by kernel_rfl, fun W hW => ?y1⟩) hHeld ?r1
  · go_simp
  refine' wpAnyH_take (i := 1) (v := .func (.func 124) #[.pointer (some ⟨p, 0, none⟩)] #[]) rfl (by kernel_rfl) (by kernel_rfl) (by kernel_rfl) (fun _ _ _ h => h) (Or.inl ⟨by kernel_rfl, fun W hW => ?y2⟩) hHeld ?r2
  · go_simp
  refine wpAnyH_ready (rs := [2]) (by kernel_rfl) (by simp) ?_
  refine AllReadyH.cons rfl (fun K hK => ?_) AllReadyH.nil
  go_simp
  refine (HC.out _ (HR2.out.turn_no (Turn.refl no w2).drew)).mono ?_
  rintro e w4 ⟨v', rfl, o4, b4, r4, t4⟩
  have t4' : Turn (fun k => k = p) w2 w4 := ((Turn.refl no w2).drew.of_no).trans t4 (fun _ _ q => q)
  have hs4 := t4'.size
  have hB4 := hB.turn t4' (fun q => by omega)
  have hA4 := hA2.turn t4' (fun q => by omega)
  refine hK.out _ _ (t4'.mono (fun _ _ q => .inl q)) (fun hHeld => ?_)
  clear hK
  obtain ⟨w5, hcp, R5, t5⟩ := run_copy_over w4 3 (g + 1) 0 16 16 v' r.1 Z 25 hB4 o4.bs (by omega)
  rw [hZ1, over_pad 16 r.1 hL] at R5
  have hA5 := hA4.turn t5 (fun q => by omega)
  have r5 := r4.turn t5 (fun k q e => by
    rcases q with q | q
    · omega
    · have := hown _ q; omega)
  have T5 : Turn (fun k => k = p ∨ k = g + 1) w2 w5 := (t4'.mono (fun _ _ q => .inl q)).trans t5 (fun _ _ q => .inr q)
  have TT : Turn (fun k => k = p) w w5 := (T2.of_no.trans T5 (S := fun k => k = p ∨ k = g + 1) (fun _ _ q => q)).mono (fun i hi q => by omega)
  clear HC HR2 o4 b4 r4 t4 t4' hB4 hA4 t5 hs4 T2 hA2 hB
  refine wpAnyH_ready (rs := [3]) (by kernel_rfl) (by simp) ?_
  refine AllReadyH.cons rfl (fun K hK => ?_) AllReadyH.nil
  rw [if_pos (by rfl)]
  refine wp_copy_run _ _ rfl _ _ rfl rfl hcp ?_
  refine hK.out _ _ T5 (fun hHeld => ?_)
  clear hK
  refine wpAnyH_done (by kernel_rfl) ?_ _
  generalize hSV : ((pad 16 r.1).map bv).toArray = SV at *
  go_wp2_with (first | (refine wpList_load_row rfl 25 (.tmp 3) rfl (g + 1) rfl 25 SV (0, 0) _ R5 Try.underlying25 rfl hSi ?_) | (refine wpList_store_row rfl 25 (.tmp 2) (.tmp 8) rfl g SV rfl rfl 25 Z hA5 hSi (by omega) hSo ?_))
  have hz' : (w5.setRow g SV).heap[g]? = some (.cells SV 25 (0, 0)) := setRow_heap _ _ _ _ _ _ hA5
  refine bodyPost_ret (v := .agg SV) ?_ rfl ⟨by rw [hSV], r5.turn (S := fun k => k = g) ((Turn.refl _ w5).setRow g SV (fun _ => rfl)) (fun k q e => ?_), TT.setRow _ _ (fun q => by omega)⟩
  · exact results_cell_row (P := Try.prog) Try.results94 _ _ g 25 SV (0, 0) _ rfl hz' Try.underlying25 rfl hSi
  · rcases q with q | q
    · omega
    · have := hown _ q; omega

def rdVs (bs : List UInt8) (i : Nat) (e : Int) : Vt × Nat × Int :=
  let a := gB bs i e
  let b := gV bs a.2.1 a.2.2
  let c := gV bs b.2.1 b.2.2
  let d := gR bs c.2.1 c.2.2 32
  let t := gV bs d.2.1 d.2.2
  let f := gV bs t.2.1 t.2.2
  let s := gR bs f.2.1 f.2.2 16
  (⟨a.1, b.1, cap31 c.1, pad 32 d.1, t.1, f.1, pad 16 s.1⟩, s.2.1, s.2.2)
theorem sealRaw94t {w0 w : World} {p : Nat} {v : Value} {bs : List UInt8} {i : Nat} {e0 : Int} (hle : bs.length ≤ 140737488355328) (h : Rt w0 w p v bs i e0) : Calls Try.prog 94 #[.func (.func 124) #[.pointer (some ⟨p, 0, none⟩)] #[]] w fun e w' => e = .returned (.agg ((pad 16 (gR bs i e0 16).1).map bv).toArray) ∧ Rt w0 w' p v bs (gR bs i e0 16).2.1 (gR bs i e0 16).2.2 :=
  (sealRaw94 h.1 hle).mono fun e w' ⟨a, b, c⟩ => ⟨a, b, h.2.trans c (fun _ _ q => q)⟩
set_option maxRecDepth 100000 in
set_option maxHeartbeats 1000000 in
theorem voteRaw44 {w : World} {p : Nat} {v : Value} {bs : List UInt8} {i : Nat} {e0 : Int} (h : Rd w p v bs i e0) (hle : bs.length ≤ 140737488355328) : Calls Try.prog 44 #[.pointer (some ⟨p, 0, none⟩), .func (.func 124) #[.pointer (some ⟨p, 0, none⟩)] #[]] w fun e w' => e = .returned (.agg (rdVs bs i e0).1.cs.toArray) ∧ Rd w' p v bs (rdVs bs i e0).2.1 (rdVs bs i e0).2.2 ∧ Turn (fun k => k = p) w w' := by
  have hlt := h.lt
  have hown : ∀ b, v.ownBlock = some b → b < w.heap.size := fun b q => h.own.lt q
  have hb : IntKind.i64.wrap (((gB bs i e0).1 : Nat) : Int) = (((gB bs i e0).1 : Nat) : Int) := by have := gB_lt bs i e0; rw [IntKind.wrap_i64]; omega
  have C1 := fun w0 W (k : Rt w0 W p v bs i e0) => byte88t hle k
  simp only [rdVs]
  generalize gB bs i e0 = a at *
  obtain ⟨a1, a2, a3⟩ := a
  dsimp only at *
  have C2 := fun w0 W (k : Rt w0 W p v bs a2 a3) => var91t hle k
  generalize gV bs a2 a3 = b at *
  obtain ⟨b1, b2, b3⟩ := b
  dsimp only at *
  have C3 := fun w0 W (k : Rt w0 W p v bs b2 b3) => int92t hle k
  generalize gV bs b2 b3 = c at *
  obtain ⟨c1, c2, c3⟩ := c
  dsimp only at *
  have C4 := fun w0 W (k : Rt w0 W p v bs c2 c3) => hash93t hle k
  have hpl := pad_len 32 _ (gR_len bs c2 c3 32)
  generalize gR bs c2 c3 32 = d at *
  obtain ⟨d1, d2, d3⟩ := d
  dsimp only at *
  have C5 := fun w0 W (k : Rt w0 W p v bs d2 d3) => var91t hle k
  generalize gV bs d2 d3 = t at *
  obtain ⟨t1, t2, t3⟩ := t
  dsimp only at *
  have C6 := fun w0 W (k : Rt w0 W p v bs t2 t3) => var91t hle k
  generalize gV bs t2 t3 = f at *
  obtain ⟨f1, f2, f3⟩ := f
  dsimp only at *
  have C7 := fun w0 W (k : Rt w0 W p v bs f2 f3) => sealRaw94t hle k
  have hpl2 := pad_len 16 _ (gR_len bs f2 f3 16)
  generalize gR bs f2 f3 16 = s at *
  obtain ⟨s1, s2, s3⟩ := s
  dsimp only at *
  generalize pad 16 s1 = s1' at *
  generalize cap31 c1 = c1' at *
  generalize pad 32 d1 = d1' at *
  have hB := built31 ⟨(a1 : Int), (b1 : Int), (c1' : Int), d1', (t1 : Int), (f1 : Int), s1'⟩ ⟨hpl, hpl2⟩
  have hl := Vt.size (v := ⟨(a1 : Int), (b1 : Int), (c1' : Int), d1', (t1 : Int), (f1 : Int), s1'⟩) ⟨hpl, hpl2⟩
  have ho := all_oneCell_toArray (Vt.one ⟨(a1 : Int), (b1 : Int), (c1' : Int), d1', (t1 : Int), (f1 : Int), s1'⟩)
  dsimp only at hB
  generalize (s1'.map bv).toArray = s16 at *
  generalize (d1'.map bv).toArray = d32 at *
  generalize (Vt.mk (a1 : Int) (b1 : Int) (c1' : Int) d1' (t1 : Int) (f1 : Int) s1').cs.toArray = VV at *
  have hSi : (Try.prog.info? 31).map (·.size) = some VV.size := by rw [hl]; exact size29
  go_enter Try.func44, Try.ntmps44
  go_upto_region 1 with fail
  obtain ⟨Z, hZ, hZs⟩ : ∃ Z : Array Value, Z = #[.int .i64 0, .int .u64 0, .int .i64 0, .int .u8 0, .int .u8 0, .int .u8 0, .int .u8 0, .int .u8 0, .int .u8 0, .int .u8 0, .int .u8 0, .int .u8 0, .int .u8 0, .int .u8 0, .int .u8 0, .int .u8 0, .int .u8 0, .int .u8 0, .int .u8 0, .int .u8 0, .int .u8 0, .int .u8 0, .int .u8 0, .int .u8 0, .int .u8 0, .int .u8 0, .int .u8 0, .int .u8 0, .int .u8 0, .int .u8 0, .int .u8 0, .int .u8 0, .int .u8 0, .int .u8 0, .int .u8 0, .int .u64 0, .int .u64 0, .int .u8 0, .int .u8 0, .int .u8 0, .int .u8 0, .int .u8 0, .int .u8 0, .int .u8 0, .int .u8 0, .int .u8 0, .int .u8 0, .int .u8 0, .int .u8 0, .int .u8 0, .int .u8 0, .int .u8 0, .int .u8 0] ∧ Z.size = 53 := ⟨_, rfl, rfl⟩
  rw [← hZ]
  clear hZ
  have hA := Row.new w Z 31
  have T1 : Turn no w (w.alloc (.cells Z 31)) := (Turn.refl no w).alloc _
  have K0 : Rt (w.alloc (.cells Z 31)) (w.alloc (.cells Z 31)) p v bs i e0 := ⟨h.turn_no T1, Turn.refl _ _⟩
  generalize w.alloc (.cells Z 31) = w1 at *
  generalize hg : w.heap.size = g at *
  go_wp2_with (first | (go_at_call 88; refine Calls.mono (C1 _ _ (by assumption)) ?_; rintro e w2 ⟨rfl, K1⟩) | (go_at_call 91; (first | refine Calls.mono (C2 _ _ (by assumption)) ?_ | refine Calls.mono (C5 _ _ (by assumption)) ?_ | refine Calls.mono (C6 _ _ (by assumption)) ?_); rintro e wv ⟨rfl, Kv⟩) | (go_at_call 92; refine Calls.mono (C3 _ _ (by assumption)) ?_; rintro e w4 ⟨rfl, K4⟩) | (go_at_call 93; refine Calls.mono (C4 _ _ (by assumption)) ?_; rintro e w5 ⟨rfl, K5⟩) | (go_at_call 94; refine Calls.mono (C7 _ _ (by assumption)) ?_; rintro e w9 ⟨rfl, K9⟩) | (guard_target =~ wpList _ _ _ ({ dst := _, op := Op.build 31 _, .. } :: _) _ _; refine wpList_build_l rfl 31 _ rfl _ ?he VV hB ?_; (case he => rfl)) | (guard_target =~ wpList _ _ _ ({ dst := _, op := Op.store 31 _ _, .. } :: _) _ _; refine wpList_store_row rfl 31 (.tmp 4) (.tmp 20) rfl g VV rfl rfl 31 Z (hA.turn K9.2 (fun q => by omega)) hSi (by omega) ho ?_))
  have R9 := hA.turn K9.2 (fun q => by omega)
  have hz' : (w9.setRow g VV).heap[g]? = some (.cells VV 31 (0, 0)) := setRow_heap _ _ _ _ _ _ R9
  have TT : Turn (fun k => k = p) w w9 := T1.of_no.trans K9.2 (fun _ _ q => q)
  refine bodyPost_ret (v := .agg VV) ?_ rfl ⟨rfl, K9.1.turn (S := fun k => k = g) ((Turn.refl _ w9).setRow g VV (fun _ => rfl)) (fun k q e => ?_), TT.setRow _ _ (fun q => by omega)⟩
  · exact results_cell_row (P := Try.prog) Try.results44 _ _ g 31 VV (0, 0) _ rfl hz' Try.underlying31 rfl hSi
  · rcases q with q | q
    · omega
    · have := hown _ q; omega
end Go.Proofs.Ytpfjllkmaogafaa

/- Votes with their seals: DecodeVote. -/
namespace Go.Proofs.Ytpfjllkmaogafaa
open Go.RowKit
set_option linter.unusedVariables false

theorem rdVs_ok (bs : List UInt8) (i : Nat) (e : Int) : (rdVs bs i e).1.ok := ⟨pad_len 32 _ (gR_len bs _ _ 32), pad_len 16 _ (gR_len bs _ _ 16)⟩
set_option maxRecDepth 100000 in
set_option maxHeartbeats 1000000 in
theorem sealed108 {w : World} {p : Nat} {v : Value} {bs : List UInt8} {i : Nat} {e0 : Int} (h : Rd w p v bs i e0) (hle : bs.length ≤ 140737488355328) : Calls Try.prog 108 #[.pointer (some ⟨p, 0, none⟩)] w fun e w' => e = .returned (.agg (rdVs bs i e0).1.cs.toArray) ∧ Rd w' p v bs (rdVs bs i e0).2.1 (rdVs bs i e0).2.2 ∧ Turn (fun k => k = p) w w' := by
  have hlt := h.lt
  have hown : ∀ b, v.ownBlock = some b → b < w.heap.size := fun b q => h.own.lt q
  have T1 : Turn no w (w.alloc (.cells zeroVt.cs.toArray 31)) := (Turn.refl no w).alloc _
  have r1 := Row.new w zeroVt.cs.toArray 31
  have D := voteRaw44 (h.turn_no T1) hle
  have hok := rdVs_ok bs i e0
  generalize rdVs bs i e0 = r at *
  obtain ⟨x, j, er⟩ := r
  dsimp only at *
  have hxo := all_oneCell_toArray (Vt.one x)
  have hxs : x.cs.toArray.size = 53 := Vt.size hok
  have hxi : (Try.prog.info? 31).map (·.size) = some x.cs.toArray.size := by rw [hxs]; exact size29
  generalize x.cs.toArray = X at *
  have hzl : zeroVt.cs.toArray.size = 53 := rfl
  generalize hZq : zeroVt.cs.toArray = Z at *
  generalize hw1 : w.alloc (.cells Z 31) = w1 at *
  go_enter Try.func108, Try.ntmps108
  go_upto_region 1 with fail
  obtain ⟨Z1, hZ1, hZe⟩ : ∃ Z1 : Array Value, Z1 = #[.int .i64 0, .int .u64 0, .int .i64 0, .int .u8 0, .int .u8 0, .int .u8 0, .int .u8 0, .int .u8 0, .int .u8 0, .int .u8 0, .int .u8 0, .int .u8 0, .int .u8 0, .int .u8 0, .int .u8 0, .int .u8 0, .int .u8 0, .int .u8 0, .int .u8 0, .int .u8 0, .int .u8 0, .int .u8 0, .int .u8 0, .int .u8 0, .int .u8 0, .int .u8 0, .int .u8 0, .int .u8 0, .int .u8 0, .int .u8 0, .int .u8 0, .int .u8 0, .int .u8 0, .int .u8 0, .int .u8 0, .int .u64 0, .int .u64 0, .int .u8 0, .int .u8 0, .int .u8 0, .int .u8 0, .int .u8 0, .int .u8 0, .int .u8 0, .int .u8 0, .int .u8 0, .int .u8 0, .int .u8 0, .int .u8 0, .int .u8 0, .int .u8 0, .int .u8 0, .int .u8 0] ∧ Z1 = zeroVt.cs.toArray := ⟨_, rfl, rfl⟩
  rw [← hZ1, hZe, hZq, hw1]
  clear hZ1 hZe Z1 hw1
  generalize hg : w.heap.size = g at *
  go_wp2_with (first | (go_at_call 44; refine D.mono ?_; rintro e w5 ⟨rfl, R5, t5⟩) | (guard_target =~ wpList _ _ _ ({ dst := _, op := Op.store 31 _ _, .. } :: _) _ _; refine wpList_store_row rfl 31 (.tmp 2) (.tmp 6) rfl g X rfl rfl 31 Z (r1.turn t5 (fun q => by omega)) hxi (by omega) hxo ?_))
  have hz' : (w5.setRow g X).heap[g]? = some (.cells X 31 (0, 0)) := setRow_heap _ _ _ _ _ _ (r1.turn t5 (fun q => by omega))
  refine bodyPost_ret (v := .agg X) ?_ rfl ⟨rfl, R5.turn (S := fun k => k = g) ((Turn.refl _ w5).setRow g X (fun _ => rfl)) (fun k q e => ?_), (T1.of_no.trans t5 (S := fun k => k = p) (fun _ _ q => q)).setRow _ _ (fun q => by omega)⟩
  · exact results_cell_row (P := Try.prog) Try.results108 _ _ g 31 X (0, 0) _ rfl hz' Try.underlying31 rfl hxi
  · rcases q with q | q
    · omega
    · have := hown _ q; omega
/-- What DecodeVote answers. -/
def dcVs (bs : List UInt8) : Vt × Int :=
  let s := rdVs bs 0 0
  let e := rend bs s.2.1 s.2.2
  let e2 := if e = 0 then plainE s.1 else e
  if e2 = 0 then (s.1, 0) else (zeroVt, e2)
set_option maxRecDepth 100000 in
set_option maxHeartbeats 2000000 in
theorem dec107 (w : World) (v : Value) (bs : List UInt8) (hb : Bs w v bs) (hle : bs.length ≤ 140737488355328) :
    Calls Try.prog 107 #[v, .func (.func 108) #[] #[], .func (.func 30) #[] #[]] w fun e w' => e = .returned (.tuple #[.agg (dcVs bs).1.cs.toArray, .int .i64 (dcVs bs).2]) ∧ Turn no w w' := by
  have C2 := fun W p v' (h : Rd W p v' bs 0 0) => sealed108 h hle
  have hok := rdVs_ok bs 0 0
  simp only [dcVs]
  generalize rdVs bs 0 0 = s at *
  obtain ⟨x, j, e1⟩ := s
  dsimp only at *
  have C3 := fun W p v' (h : Rd W p v' bs j e1) => end_any W p v' bs j e1 h
  have C4 := fun W => plain9 W x hok
  generalize rend bs j e1 = er at *
  have hl : x.cs.toArray.size = 53 := Vt.size hok
  have ho := all_oneCell_toArray (Vt.one x)
  have hSi : (Try.prog.info? 31).map (·.size) = some x.cs.toArray.size := by rw [hl]; exact size29
  have hzl : zeroVt.cs.toArray.size = 53 := rfl
  have hzo := all_oneCell_toArray (Vt.one zeroVt)
  have hzi : (Try.prog.info? 31).map (·.size) = some zeroVt.cs.toArray.size := by rw [hzl]; exact size29
  generalize plainE x = pe at *
  generalize hZq : zeroVt.cs.toArray = Z at *
  by_cases he : er = 0
  · subst he
    rw [if_pos rfl]
    have D5 := C4
    by_cases hq : pe = 0
    · subst hq
      rw [if_pos rfl]
      generalize x.cs.toArray = VV at *
      go_enter Try.func107, Try.ntmps107
      go_upto_region 1 with fail
      obtain ⟨Z1, hZ1, hZe⟩ : ∃ Z1 : Array Value, Z1 = #[.int .i64 0, .int .u64 0, .int .i64 0, .int .u8 0, .int .u8 0, .int .u8 0, .int .u8 0, .int .u8 0, .int .u8 0, .int .u8 0, .int .u8 0, .int .u8 0, .int .u8 0, .int .u8 0, .int .u8 0, .int .u8 0, .int .u8 0, .int .u8 0, .int .u8 0, .int .u8 0, .int .u8 0, .int .u8 0, .int .u8 0, .int .u8 0, .int .u8 0, .int .u8 0, .int .u8 0, .int .u8 0, .int .u8 0, .int .u8 0, .int .u8 0, .int .u8 0, .int .u8 0, .int .u8 0, .int .u8 0, .int .u64 0, .int .u64 0, .int .u8 0, .int .u8 0, .int .u8 0, .int .u8 0, .int .u8 0, .int .u8 0, .int .u8 0, .int .u8 0, .int .u8 0, .int .u8 0, .int .u8 0, .int .u8 0, .int .u8 0, .int .u8 0, .int .u8 0, .int .u8 0] ∧ Z1 = zeroVt.cs.toArray := ⟨_, rfl, rfl⟩
      rw [← hZ1, hZe, hZq]
      clear hZ1 hZe Z1
      have hA := Row.new w Z 31
      have T1 : Turn no w (w.alloc (.cells Z 31)) := (Turn.refl no w).alloc _
      generalize w.alloc (.cells Z 31) = w1 at *
      have hb1 := hb.turn_no T1
      have hs1 := T1.size
      have hA1 := hA.lt
      obtain ⟨va, vc, hve⟩ := hb.slice
      subst hve
      generalize hg : w.heap.size = g at *
      go_upto_region 2 with (go_at_call 116; refine (newReader_any _ _ bs hb1 hle).mono ?_; rintro e w2 ⟨p, v', rfl, R2, n2, t2⟩)
      have hpg := n2 p (.inl rfl)
      have T2 := T1.then_no t2
      have D2 := C2 w2 p v' R2
      clear C2
      go_upto_region 3 with (first | (go_at_call 108; refine D2.mono ?_; rintro e w3 ⟨rfl, R3, t3⟩) | (guard_target =~ wpList _ _ _ ({ dst := _, op := Op.store 31 _ _, .. } :: _) _ _; refine wpList_store_row rfl 31 (.tmp 9) (.tmp 16) rfl w3.heap.size VV rfl rfl 31 _ (heap_alloc_new w3 _) hSi (by rw [hl]; rfl) ho ?_))
      rw [World.setRow_alloc_new]
      have T3 : Turn no w w3 := (T2.of_no.trans t3 (S := fun k => k = p) (fun _ _ q => q)).mono (fun i hi q => by omega)
      have A3 := (hA.turn t2 (fun q => q)).turn t3 (fun q => by omega)
      have hA3 := A3.lt
      have V4 := Row.new w3 VV 31
      have A4 := A3.alloc (.cells VV 31)
      have T4 := T3.alloc (.cells VV 31)
      have R4 := R3.turn_no ((Turn.refl no w3).alloc (.cells VV 31))
      have hs4 : (w3.alloc (.cells VV 31)).heap.size = w3.heap.size + 1 := by simp
      generalize w3.alloc (.cells VV 31) = w4 at *
      generalize w3.heap.size = gv at *
      have D3 := C3 w4 p v' R4
      clear C3 D2 R2 R3 R4 t2 t3 A3 T1 T2 T3 hA hb hb1 n2
      go_upto_region 4 with (go_at_call 117; refine D3.mono ?_; rintro e w5 ⟨rfl, n5, rfl⟩)
      clear D3
      have V5 := V4.drewN n5
      have A5 := A4.drewN n5
      have T5 := T4.drewN n5
      have hs5 : (w4.drewN n5).heap.size = gv + 1 := hs4
      generalize w4.drewN n5 = w5 at *
      clear V4 A4 T4 hs4
      go_upto_region 6 with (first | (guard_target =~ wpList _ _ _ ({ dst := _, op := Op.load 31 _, .. } :: _) _ _; refine wpList_load_row rfl 31 (.tmp 9) rfl gv rfl 31 VV (0, 0) _ V5 Try.underlying31 rfl hSi ?_) | (go_at_call 30; refine (D5 _).mono ?_; rintro e w6 ⟨rfl, t6⟩))
      have V6 := V5.turn t6 (fun q => q)
      have A6 := A5.turn t6 (fun q => q)
      have T6 := T5.then_no t6
      have hs6 := t6.size
      clear V5 A5 T5 D5 C4 t6
      go_wp2_with (first | (guard_target =~ wpList _ _ _ ({ dst := _, op := Op.load 31 _, .. } :: _) _ _; refine wpList_load_row rfl 31 (.tmp 9) rfl gv rfl 31 VV (0, 0) _ V6 Try.underlying31 rfl hSi ?_) | (guard_target =~ wpList _ _ _ ({ dst := _, op := Op.store 31 _ _, .. } :: _) _ _; refine wpList_store_row rfl 31 (.tmp 6) (.tmp 28) rfl g VV rfl rfl 31 Z A6 hSi (by omega) ho ?_))
      have hz' : (w6.setRow g VV).heap[g]? = some (.cells VV 31 (0, 0)) := setRow_heap _ _ _ _ _ _ A6
      refine bodyPost_ret (v := .tuple #[.agg VV, .int .i64 0]) ?_ rfl ⟨rfl, T6.setRow _ _ (fun q => by omega)⟩
      exact results_cell_row_tmp (P := Try.prog) Try.results107 _ _ g 31 VV (0, 0) _ rfl hz' Try.underlying31 rfl hSi
    · rw [if_neg hq]
      dsimp only
      rw [hZq]
      have hq1 : (pe == 0) = false := by simpa using hq
      have hq2 : (pe != 0) = true := by simpa using hq
      generalize x.cs.toArray = VV at *
      go_enter Try.func107, Try.ntmps107
      go_upto_region 1 with fail
      obtain ⟨Z1, hZ1, hZe⟩ : ∃ Z1 : Array Value, Z1 = #[.int .i64 0, .int .u64 0, .int .i64 0, .int .u8 0, .int .u8 0, .int .u8 0, .int .u8 0, .int .u8 0, .int .u8 0, .int .u8 0, .int .u8 0, .int .u8 0, .int .u8 0, .int .u8 0, .int .u8 0, .int .u8 0, .int .u8 0, .int .u8 0, .int .u8 0, .int .u8 0, .int .u8 0, .int .u8 0, .int .u8 0, .int .u8 0, .int .u8 0, .int .u8 0, .int .u8 0, .int .u8 0, .int .u8 0, .int .u8 0, .int .u8 0, .int .u8 0, .int .u8 0, .int .u8 0, .int .u8 0, .int .u64 0, .int .u64 0, .int .u8 0, .int .u8 0, .int .u8 0, .int .u8 0, .int .u8 0, .int .u8 0, .int .u8 0, .int .u8 0, .int .u8 0, .int .u8 0, .int .u8 0, .int .u8 0, .int .u8 0, .int .u8 0, .int .u8 0, .int .u8 0] ∧ Z1 = zeroVt.cs.toArray := ⟨_, rfl, rfl⟩
      rw [← hZ1, hZe, hZq]
      clear hZ1 hZe Z1
      have hA := Row.new w Z 31
      have T1 : Turn no w (w.alloc (.cells Z 31)) := (Turn.refl no w).alloc _
      generalize w.alloc (.cells Z 31) = w1 at *
      have hb1 := hb.turn_no T1
      have hs1 := T1.size
      have hA1 := hA.lt
      obtain ⟨va, vc, hve⟩ := hb.slice
      subst hve
      generalize hg : w.heap.size = g at *
      go_upto_region 2 with (go_at_call 116; refine (newReader_any _ _ bs hb1 hle).mono ?_; rintro e w2 ⟨p, v', rfl, R2, n2, t2⟩)
      have hpg := n2 p (.inl rfl)
      have T2 := T1.then_no t2
      have D2 := C2 w2 p v' R2
      clear C2
      go_upto_region 3 with (first | (go_at_call 108; refine D2.mono ?_; rintro e w3 ⟨rfl, R3, t3⟩) | (guard_target =~ wpList _ _ _ ({ dst := _, op := Op.store 31 _ _, .. } :: _) _ _; refine wpList_store_row rfl 31 (.tmp 9) (.tmp 16) rfl w3.heap.size VV rfl rfl 31 _ (heap_alloc_new w3 _) hSi (by rw [hl]; rfl) ho ?_))
      rw [World.setRow_alloc_new]
      have T3 : Turn no w w3 := (T2.of_no.trans t3 (S := fun k => k = p) (fun _ _ q => q)).mono (fun i hi q => by omega)
      have A3 := (hA.turn t2 (fun q => q)).turn t3 (fun q => by omega)
      have hA3 := A3.lt
      have V4 := Row.new w3 VV 31
      have A4 := A3.alloc (.cells VV 31)
      have T4 := T3.alloc (.cells VV 31)
      have R4 := R3.turn_no ((Turn.refl no w3).alloc (.cells VV 31))
      have hs4 : (w3.alloc (.cells VV 31)).heap.size = w3.heap.size + 1 := by simp
      generalize w3.alloc (.cells VV 31) = w4 at *
      generalize w3.heap.size = gv at *
      have D3 := C3 w4 p v' R4
      clear C3 D2 R2 R3 R4 t2 t3 A3 T1 T2 T3 hA hb hb1 n2
      go_upto_region 4 with (go_at_call 117; refine D3.mono ?_; rintro e w5 ⟨rfl, n5, rfl⟩)
      clear D3
      have V5 := V4.drewN n5
      have A5 := A4.drewN n5
      have T5 := T4.drewN n5
      have hs5 : (w4.drewN n5).heap.size = gv + 1 := hs4
      generalize w4.drewN n5 = w5 at *
      clear V4 A4 T4 hs4
      go_upto_region 6 with (first | (guard_target =~ wpList _ _ _ ({ dst := _, op := Op.load 31 _, .. } :: _) _ _; refine wpList_load_row rfl 31 (.tmp 9) rfl gv rfl 31 VV (0, 0) _ V5 Try.underlying31 rfl hSi ?_) | (go_at_call 30; refine (D5 _).mono ?_; rintro e w6 ⟨rfl, t6⟩))
      have V6 := V5.turn t6 (fun q => q)
      have A6 := A5.turn t6 (fun q => q)
      have T6 := T5.then_no t6
      have hs6 := t6.size
      clear V5 A5 T5 D5 C4 t6
      have hz := Row.new w6 Z 31
      have Az := A6.alloc (.cells Z 31)
      have Tz := T6.alloc (.cells Z 31)
      have hne : w6.heap.size ≠ g := by omega
      clear hs6
      generalize hwz : w6.alloc (.cells Z 31) = wz at *
      go_upto_region 8 with fail
      obtain ⟨Z1, hZ1, hZe⟩ : ∃ Z1 : Array Value, Z1 = #[.int .i64 0, .int .u64 0, .int .i64 0, .int .u8 0, .int .u8 0, .int .u8 0, .int .u8 0, .int .u8 0, .int .u8 0, .int .u8 0, .int .u8 0, .int .u8 0, .int .u8 0, .int .u8 0, .int .u8 0, .int .u8 0, .int .u8 0, .int .u8 0, .int .u8 0, .int .u8 0, .int .u8 0, .int .u8 0, .int .u8 0, .int .u8 0, .int .u8 0, .int .u8 0, .int .u8 0, .int .u8 0, .int .u8 0, .int .u8 0, .int .u8 0, .int .u8 0, .int .u8 0, .int .u8 0, .int .u8 0, .int .u64 0, .int .u64 0, .int .u8 0, .int .u8 0, .int .u8 0, .int .u8 0, .int .u8 0, .int .u8 0, .int .u8 0, .int .u8 0, .int .u8 0, .int .u8 0, .int .u8 0, .int .u8 0, .int .u8 0, .int .u8 0, .int .u8 0, .int .u8 0] ∧ Z1 = zeroVt.cs.toArray := ⟨_, rfl, rfl⟩
      rw [← hZ1, hZe, hZq, hwz]
      clear hZ1 hZe Z1
      go_wp2_with (first | (guard_target =~ wpList _ _ _ ({ dst := _, op := Op.load 31 _, .. } :: _) _ _; refine wpList_load_row rfl 31 (.tmp 11) rfl w6.heap.size rfl 31 Z (0, 0) _ hz Try.underlying31 rfl hzi ?_) | (guard_target =~ wpList _ _ _ ({ dst := _, op := Op.store 31 _ _, .. } :: _) _ _; refine wpList_store_row rfl 31 (.tmp 6) (.tmp 26) rfl g Z rfl rfl 31 Z Az hzi (by omega) hzo ?_))
      have hz' : (wz.setRow g Z).heap[g]? = some (.cells Z 31 (0, 0)) := setRow_heap _ _ _ _ _ _ Az
      refine bodyPost_ret (v := .tuple #[.agg Z, .int .i64 pe]) ?_ rfl ⟨rfl, Tz.setRow _ _ (fun q => by omega)⟩
      exact results_cell_row_tmp (P := Try.prog) Try.results107 _ _ g 31 Z (0, 0) _ rfl hz' Try.underlying31 rfl hzi
  · rw [if_neg he, if_neg he]
    dsimp only
    rw [hZq]
    have hq1 : (er == 0) = false := by simpa using he
    have hq2 : (er != 0) = true := by simpa using he
    generalize x.cs.toArray = VV at *
    go_enter Try.func107, Try.ntmps107
    go_upto_region 1 with fail
    obtain ⟨Z1, hZ1, hZe⟩ : ∃ Z1 : Array Value, Z1 = #[.int .i64 0, .int .u64 0, .int .i64 0, .int .u8 0, .int .u8 0, .int .u8 0, .int .u8 0, .int .u8 0, .int .u8 0, .int .u8 0, .int .u8 0, .int .u8 0, .int .u8 0, .int .u8 0, .int .u8 0, .int .u8 0, .int .u8 0, .int .u8 0, .int .u8 0, .int .u8 0, .int .u8 0, .int .u8 0, .int .u8 0, .int .u8 0, .int .u8 0, .int .u8 0, .int .u8 0, .int .u8 0, .int .u8 0, .int .u8 0, .int .u8 0, .int .u8 0, .int .u8 0, .int .u8 0, .int .u8 0, .int .u64 0, .int .u64 0, .int .u8 0, .int .u8 0, .int .u8 0, .int .u8 0, .int .u8 0, .int .u8 0, .int .u8 0, .int .u8 0, .int .u8 0, .int .u8 0, .int .u8 0, .int .u8 0, .int .u8 0, .int .u8 0, .int .u8 0, .int .u8 0] ∧ Z1 = zeroVt.cs.toArray := ⟨_, rfl, rfl⟩
    rw [← hZ1, hZe, hZq]
    clear hZ1 hZe Z1
    have hA := Row.new w Z 31
    have T1 : Turn no w (w.alloc (.cells Z 31)) := (Turn.refl no w).alloc _
    generalize w.alloc (.cells Z 31) = w1 at *
    have hb1 := hb.turn_no T1
    have hs1 := T1.size
    have hA1 := hA.lt
    obtain ⟨va, vc, hve⟩ := hb.slice
    subst hve
    generalize hg : w.heap.size = g at *
    go_upto_region 2 with (go_at_call 116; refine (newReader_any _ _ bs hb1 hle).mono ?_; rintro e w2 ⟨p, v', rfl, R2, n2, t2⟩)
    have hpg := n2 p (.inl rfl)
    have T2 := T1.then_no t2
    have D2 := C2 w2 p v' R2
    clear C2
    go_upto_region 3 with (first | (go_at_call 108; refine D2.mono ?_; rintro e w3 ⟨rfl, R3, t3⟩) | (guard_target =~ wpList _ _ _ ({ dst := _, op := Op.store 31 _ _, .. } :: _) _ _; refine wpList_store_row rfl 31 (.tmp 9) (.tmp 16) rfl w3.heap.size VV rfl rfl 31 _ (heap_alloc_new w3 _) hSi (by rw [hl]; rfl) ho ?_))
    rw [World.setRow_alloc_new]
    have T3 : Turn no w w3 := (T2.of_no.trans t3 (S := fun k => k = p) (fun _ _ q => q)).mono (fun i hi q => by omega)
    have A3 := (hA.turn t2 (fun q => q)).turn t3 (fun q => by omega)
    have hA3 := A3.lt
    have V4 := Row.new w3 VV 31
    have A4 := A3.alloc (.cells VV 31)
    have T4 := T3.alloc (.cells VV 31)
    have R4 := R3.turn_no ((Turn.refl no w3).alloc (.cells VV 31))
    have hs4 : (w3.alloc (.cells VV 31)).heap.size = w3.heap.size + 1 := by simp
    generalize w3.alloc (.cells VV 31) = w4 at *
    generalize w3.heap.size = gv at *
    have D3 := C3 w4 p v' R4
    clear C3 D2 R2 R3 R4 t2 t3 A3 T1 T2 T3 hA hb hb1 n2
    go_upto_region 4 with (go_at_call 117; refine D3.mono ?_; rintro e w5 ⟨rfl, n5, rfl⟩)
    clear D3
    have V5 := V4.drewN n5
    have A5 := A4.drewN n5
    have T5 := T4.drewN n5
    have hs5 : (w4.drewN n5).heap.size = gv + 1 := hs4
    generalize w4.drewN n5 = w5 at *
    clear V4 A4 T4 hs4
    have hz := Row.new w5 Z 31
    have Az := A5.alloc (.cells Z 31)
    have Tz := T5.alloc (.cells Z 31)
    have hne : w5.heap.size ≠ g := by omega
    clear hs5
    generalize hwz : w5.alloc (.cells Z 31) = wz at *
    go_upto_region 8 with fail
    obtain ⟨Z1, hZ1, hZe⟩ : ∃ Z1 : Array Value, Z1 = #[.int .i64 0, .int .u64 0, .int .i64 0, .int .u8 0, .int .u8 0, .int .u8 0, .int .u8 0, .int .u8 0, .int .u8 0, .int .u8 0, .int .u8 0, .int .u8 0, .int .u8 0, .int .u8 0, .int .u8 0, .int .u8 0, .int .u8 0, .int .u8 0, .int .u8 0, .int .u8 0, .int .u8 0, .int .u8 0, .int .u8 0, .int .u8 0, .int .u8 0, .int .u8 0, .int .u8 0, .int .u8 0, .int .u8 0, .int .u8 0, .int .u8 0, .int .u8 0, .int .u8 0, .int .u8 0, .int .u8 0, .int .u64 0, .int .u64 0, .int .u8 0, .int .u8 0, .int .u8 0, .int .u8 0, .int .u8 0, .int .u8 0, .int .u8 0, .int .u8 0, .int .u8 0, .int .u8 0, .int .u8 0, .int .u8 0, .int .u8 0, .int .u8 0, .int .u8 0, .int .u8 0] ∧ Z1 = zeroVt.cs.toArray := ⟨_, rfl, rfl⟩
    rw [← hZ1, hZe, hZq, hwz]
    clear hZ1 hZe Z1
    go_wp2_with (first | (guard_target =~ wpList _ _ _ ({ dst := _, op := Op.load 31 _, .. } :: _) _ _; refine wpList_load_row rfl 31 (.tmp 11) rfl w5.heap.size rfl 31 Z (0, 0) _ hz Try.underlying31 rfl hzi ?_) | (guard_target =~ wpList _ _ _ ({ dst := _, op := Op.store 31 _ _, .. } :: _) _ _; refine wpList_store_row rfl 31 (.tmp 6) (.tmp 26) rfl g Z rfl rfl 31 Z Az hzi (by omega) hzo ?_))
    have hz' : (wz.setRow g Z).heap[g]? = some (.cells Z 31 (0, 0)) := setRow_heap _ _ _ _ _ _ Az
    refine bodyPost_ret (v := .tuple #[.agg Z, .int .i64 er]) ?_ rfl ⟨rfl, Tz.setRow _ _ (fun q => by omega)⟩
    exact results_cell_row_tmp (P := Try.prog) Try.results107 _ _ g 31 Z (0, 0) _ rfl hz' Try.underlying31 rfl hzi
set_option maxRecDepth 100000 in
set_option maxHeartbeats 2000000 in
theorem decVote52 (w : World) (v : Value) (bs : List UInt8) (hb : Bs w v bs) (hle : bs.length ≤ 140737488355328) :
    Calls Try.prog 52 #[v] w fun e w' => e = .returned (.tuple #[.agg (dcVs bs).1.cs.toArray, .int .i64 (dcVs bs).2]) ∧ Turn no w w' := by
  have t1 : Turn no w (w.alloc (.cells zeroVt.cs.toArray 31)) := (Turn.refl no w).alloc _
  have r1 := Row.new w zeroVt.cs.toArray 31
  have D := dec107 (w.alloc (.cells zeroVt.cs.toArray 31)) v bs (hb.turn_no t1) hle
  have hok : (dcVs bs).1.ok := by
    have h := rdVs_ok bs 0 0
    unfold dcVs
    dsimp only
    generalize (if rend bs (rdVs bs 0 0).2.1 (rdVs bs 0 0).2.2 = 0 then plainE (rdVs bs 0 0).1 else rend bs (rdVs bs 0 0).2.1 (rdVs bs 0 0).2.2) = e2
    by_cases q : e2 = 0
    · rw [if_pos q]; exact h
    · rw [if_neg q]; exact ⟨rfl, rfl⟩
  generalize dcVs bs = a at *
  obtain ⟨x, er⟩ := a
  dsimp only at *
  have hxo := all_oneCell_toArray (Vt.one x)
  have hxs : x.cs.toArray.size = 53 := Vt.size hok
  have hxi : (Try.prog.info? 31).map (·.size) = some x.cs.toArray.size := by rw [hxs]; exact size29
  have hzl : zeroVt.cs.toArray.size = 53 := rfl
  generalize x.cs.toArray = X at *
  generalize hZq : zeroVt.cs.toArray = Z at *
  obtain ⟨va, vc, rfl⟩ := hb.slice
  clear hb hok
  generalize hw1 : w.alloc (.cells Z 31) = w1 at *
  go_enter Try.func52, Try.ntmps52
  go_upto_region 1 with fail
  obtain ⟨Z1, hZ1, hZe⟩ : ∃ Z1 : Array Value, Z1 = #[.int .i64 0, .int .u64 0, .int .i64 0, .int .u8 0, .int .u8 0, .int .u8 0, .int .u8 0, .int .u8 0, .int .u8 0, .int .u8 0, .int .u8 0, .int .u8 0, .int .u8 0, .int .u8 0, .int .u8 0, .int .u8 0, .int .u8 0, .int .u8 0, .int .u8 0, .int .u8 0, .int .u8 0, .int .u8 0, .int .u8 0, .int .u8 0, .int .u8 0, .int .u8 0, .int .u8 0, .int .u8 0, .int .u8 0, .int .u8 0, .int .u8 0, .int .u8 0, .int .u8 0, .int .u8 0, .int .u8 0, .int .u64 0, .int .u64 0, .int .u8 0, .int .u8 0, .int .u8 0, .int .u8 0, .int .u8 0, .int .u8 0, .int .u8 0, .int .u8 0, .int .u8 0, .int .u8 0, .int .u8 0, .int .u8 0, .int .u8 0, .int .u8 0, .int .u8 0, .int .u8 0] ∧ Z1 = zeroVt.cs.toArray := ⟨_, rfl, rfl⟩
  rw [← hZ1, hZe, hZq, hw1]
  clear hZ1 hZe Z1 hw1
  generalize hg : w.heap.size = g at *
  go_wp2_with (first | (go_at_call 107; refine D.mono ?_; rintro e w5 ⟨rfl, t5⟩) | (guard_target =~ wpList _ _ _ ({ dst := _, op := Op.store 31 _ _, .. } :: _) _ _; refine wpList_store_row rfl 31 (.tmp 2) (.tmp 6) rfl g X rfl rfl 31 Z (r1.turn t5 (fun q => q)) hxi (by omega) hxo ?_))
  have hz' : (w5.setRow g X).heap[g]? = some (.cells X 31 (0, 0)) := setRow_heap _ _ _ _ _ _ (r1.turn t5 (fun q => q))
  refine bodyPost_ret (v := .tuple #[.agg X, .int .i64 er]) ?_ rfl ⟨rfl, (t1.then_no t5).setRow _ _ (fun q => by omega)⟩
  exact results_cell_row_tmp (P := Try.prog) Try.results52 _ _ g 31 X (0, 0) _ rfl hz' Try.underlying31 rfl hxi
end Go.Proofs.Ytpfjllkmaogafaa

/- Votes with their seals: EncodeVote. -/
namespace Go.Proofs.Ytpfjllkmaogafaa
open Go.RowKit
set_option linter.unusedVariables false

set_option maxRecDepth 100000 in
set_option maxHeartbeats 4000000 in
theorem layRaw31 (w : World) (p : Nat) (v : Value) (bs : List UInt8) (h : Wr w p v bs 0) (x : Vt) (ho : x.fits) (hk1 : 1 ≤ x.k) (hk4 : x.k ≤ 2) (hr1 : 0 ≤ x.r) (hr2 : x.r ≤ 65535) (hle : bs.length + 1000 ≤ 140737488355328) :
    Calls Try.prog 31 #[.pointer (some ⟨p, 0, none⟩), .agg x.cs.toArray, .func (.func 71) #[.pointer (some ⟨p, 0, none⟩)] #[]] w fun e w' => e = .returned (.tuple #[]) ∧ Laid w p v (bs ++ (voB x ++ x.se)) 0 w' := by
  obtain ⟨hok, hh, ht, hf⟩ := ho
  obtain ⟨c0, c1, c2, c3, c4, ci⟩ := (Row.new w x.cs.toArray 31).vt hok
  have cse : (w.alloc (.cells x.cs.toArray 31)).rangeAt w.heap.size 37 (x.se.map bv) := fun j u hu => (Row.new w x.cs.toArray 31).cell (37 + j) _ (Vt.cse hok j u hu)
  have t0 : Turn no w (w.alloc (.cells x.cs.toArray 31)) := (Turn.refl no w).alloc _
  have L0 := Laid.refl (h.turn_no t0)
  have hb : ¬ wfoot p v w.heap.size := by
    rintro (q | q)
    · have := h.lt; omega
    · have := h.own.lt q; omega
  obtain ⟨k, hk⟩ : ∃ k : Nat, x.k = (k : Int) := ⟨x.k.toNat, by omega⟩
  obtain ⟨nh, eh⟩ : ∃ k : Nat, x.h = (k : Int) := ⟨x.h.toNat, by omega⟩
  obtain ⟨nr, er⟩ : ∃ k : Nat, x.r = (k : Int) := ⟨x.r.toNat, by omega⟩
  obtain ⟨nt, et⟩ : ∃ k : Nat, x.t = (k : Int) := ⟨x.t.toNat, by omega⟩
  obtain ⟨nf, ef⟩ : ∃ k : Nat, x.f = (k : Int) := ⟨x.f.toNat, by omega⟩
  have hB : voB x = leB k 1 ++ (varE nh ++ (varE nr ++ (x.id ++ (varE nt ++ varE nf)))) := by unfold voB; rw [hk, eh, er, et, ef]; simp only [Int.toNat_natCast]
  rw [hB]
  rw [hk] at c0 hk1 hk4
  rw [eh] at c1 hh
  rw [er] at c2 hr1 hr2
  rw [et] at c3 ht
  rw [ef] at c4 hf
  have hil := hok.1
  have hsl := hok.2
  have l5 := varE_le nf
  have l1 := leB_length k 1
  have l2 := varE_le nh
  have l3 := varE_le nr
  have l4 := varE_le nt
  generalize x.id = X at *
  generalize x.se = E at *
  generalize x.cs.toArray = C at *
  have HC := shutX (fun W B (L : Laid (w.alloc (.cells C 31)) p v B 0 W) => And.intro (L.cell hb c1) (And.intro (L.cell hb c2) (And.intro (L.cell hb c3) (And.intro (L.cell hb c4) (And.intro (fun j u hu => L.cell hb (ci j u hu) : W.rangeAt w.heap.size 3 (X.map bv)) (fun j u hu => L.cell hb (cse j u hu) : W.rangeAt w.heap.size 37 (E.map bv)))))))
  have hw8 : IntKind.u8.wrap (k : Int) = (k : Int) := by rw [IntKind.wrap_u8]; omega
  have hwr : IntKind.u64.wrap (nr : Int) = (nr : Int) := by rw [IntKind.wrap_u64]; omega
  have S1 := step57 L0 k (by omega) (by omega)
  have S2 := fun W L => step62 (w0 := w.alloc (.cells C 31)) (W := W) (p := p) (v := v) (bs := bs ++ leB k 1) L nh (by omega) (by simp; omega)
  have S3 := fun W L => step62 (w0 := w.alloc (.cells C 31)) (W := W) (p := p) (v := v) (bs := bs ++ leB k 1 ++ varE nh) L nr (by omega) (by simp; omega)
  have S4 := fun W L (hx : W.rangeAt w.heap.size 3 (X.map bv)) => step71 (w0 := w.alloc (.cells C 31)) (W := W) (p := p) (v := v) (bs := bs ++ leB k 1 ++ varE nh ++ varE nr) L (.slice (some ⟨w.heap.size, 3, none⟩) 32 32) X (bs_range hx 32 hil (by omega)) (by simp; omega)
  have S5 := fun W L => step62 (w0 := w.alloc (.cells C 31)) (W := W) (p := p) (v := v) (bs := bs ++ leB k 1 ++ varE nh ++ varE nr ++ X) L nt (by omega) (by simp; omega)
  have S6 := fun W L => step62 (w0 := w.alloc (.cells C 31)) (W := W) (p := p) (v := v) (bs := bs ++ leB k 1 ++ varE nh ++ varE nr ++ X ++ varE nt) L nf (by omega) (by simp; omega)
  have S7 := fun W L (hx : W.rangeAt w.heap.size 37 (E.map bv)) => step71 (w0 := w.alloc (.cells C 31)) (W := W) (p := p) (v := v) (bs := bs ++ leB k 1 ++ varE nh ++ varE nr ++ X ++ varE nt ++ varE nf) L (.slice (some ⟨w.heap.size, 37, none⟩) 16 16) E (bs_range hx 16 hsl (by omega)) (by simp; omega)
  have HS := shutX (And.intro S2 (And.intro S3 (And.intro S4 (And.intro S5 (And.intro S6 S7)))))
  clear S2 S3 S4 S5 S6 S7 cse hsl l5 hh ht hf l1 l2 l3 l4 hle hB c1 c2 c3 c4 ci L0 h hil hok hr1 hr2 hk1 hk4 hk eh er et ef
  go_enter Try.func31, Try.ntmps31
  go_upto_region 2 with (go_at_call 57; refine S1.mono ?_; rintro e w1 ⟨rfl, L1⟩; obtain ⟨d1, -, -, -, -, -⟩ := HC.out w1 _ L1; clear S1)
  go_upto_region 3 with (go_at_call 62; refine (HS.out.1 _ L1).mono ?_; rintro e w2 ⟨rfl, L2⟩; obtain ⟨-, d2, -, -, -, -⟩ := HC.out w2 _ L2)
  go_upto_region 4 with (go_at_call 62; refine (HS.out.2.1 _ L2).mono ?_; rintro e w3 ⟨rfl, L3⟩)
  have S4 := HS.out.2.2.1 _ L3 (HC.out w3 _ L3).2.2.2.2.1
  go_upto_region 5 with (go_at_call 71; refine S4.mono ?_; rintro e w4 ⟨rfl, L4⟩; obtain ⟨-, -, d3, -, -, -⟩ := HC.out w4 _ L4)
  go_upto_region 6 with (go_at_call 62; refine (HS.out.2.2.2.1 _ L4).mono ?_; rintro e w5 ⟨rfl, L5⟩; obtain ⟨-, -, -, d4, -, -⟩ := HC.out w5 _ L5)
  go_upto_region 7 with (go_at_call 62; refine (HS.out.2.2.2.2.1 _ L5).mono ?_; rintro e w6 ⟨rfl, L6⟩)
  have S7 := HS.out.2.2.2.2.2 _ L6 (HC.out w6 _ L6).2.2.2.2.2
  go_wp2_with (first | (go_at_call 71; refine S7.mono ?_; rintro e w7 ⟨rfl, L7⟩))
  go_end0
  refine ⟨rfl, ?_⟩
  have := L7.pre t0
  simpa [List.append_assoc] using this
set_option maxRecDepth 100000 in
set_option maxHeartbeats 2000000 in
theorem laySealed106 (w : World) (p : Nat) (v : Value) (h : Wr w p v [] 0) (x : Vt) (ho : x.fits) (hk1 : 1 ≤ x.k) (hk4 : x.k ≤ 2) (hr1 : 0 ≤ x.r) (hr2 : x.r ≤ 65535) :
    Calls Try.prog 106 #[.pointer (some ⟨p, 0, none⟩), .agg x.cs.toArray] w fun e w' => e = .returned (.tuple #[]) ∧ Laid w p v (voB x ++ x.se) 0 w' := by
  have cr := Row.range (Row.new w x.cs.toArray 31)
  have hz : (Try.prog.info? 31).map (·.size) = some x.cs.length := by rw [Vt.len ho.1]; exact size29
  have t0 : Turn no w (w.alloc (.cells x.cs.toArray 31)) := (Turn.refl no w).alloc _
  have C := layRaw31 _ p v [] (h.turn_no t0) x ho hk1 hk4 hr1 hr2 (by simp)
  rw [List.nil_append] at C
  generalize voB x ++ x.se = SB at *
  generalize x.cs = D at *
  go_enter Try.func106, Try.ntmps106
  go_wp2_with (first | (guard_target =~ wpList _ _ _ ({ dst := _, op := Op.load 31 _, .. } :: _) _ _; refine wpList_load_mid rfl 31 (.tmp 3) rfl w.heap.size 0 rfl D _ cr Try.underlying31 rfl hz ?_) | (go_at_call 31; refine C.mono ?_; rintro e w1 ⟨rfl, L1⟩))
  go_end0
  exact ⟨rfl, L1.pre t0⟩
set_option maxRecDepth 100000 in
set_option maxHeartbeats 2000000 in
theorem encV105 (w : World) (x : Vt) (ho : x.fits) (he : plainE x = 0) :
    Calls Try.prog 105 #[.agg x.cs.toArray, .func (.func 30) #[] #[], .func (.func 106) #[] #[]] w (Told w 0 (voB x ++ x.se)) := by
  have cr := Row.range (Row.new w x.cs.toArray 31)
  have hz : (Try.prog.info? 31).map (·.size) = some x.cs.length := by rw [Vt.len ho.1]; exact size29
  have t0 : Turn no w (w.alloc (.cells x.cs.toArray 31)) := (Turn.refl no w).alloc _
  have C53 := plain9 (w.alloc (.cells x.cs.toArray 31)) x ho.1
  have HR := shutX (fun W (t : Turn no (w.alloc (.cells x.cs.toArray 31)) W) => (fun j u hu => t.keep (cr j u hu) (fun q => q) : W.rangeAt w.heap.size 0 x.cs))
  obtain ⟨hk1, hk4, hr1, hr2⟩ := plainE_kind he
  rw [he] at C53
  have C56 : ∀ (W W1 : World), Wr W1 W.heap.size (.slice none 0 0) [] 0 → Calls Try.prog 106 #[.pointer (some ⟨W.heap.size, 0, none⟩), .agg x.cs.toArray] W1 fun e w' => e = .returned (.tuple #[]) ∧ Laid W1 W.heap.size (.slice none 0 0) (voB x ++ x.se) 0 w' := fun W W1 h =>
    laySealed106 W1 _ _ h x ho hk1 hk4 hr1 hr2
  have hBl : (voB x ++ x.se).length ≤ 140737488355328 := by
    have b1 := varE_le x.h.toNat; have b2 := varE_le x.r.toNat; have b3 := varE_le x.t.toNat; have b4 := varE_le x.f.toNat; have b5 := ho.1.1; have b6 := ho.1.2
    simp only [voB, List.length_append, leB_length]
    omega
  have C111 := fun W p v h => out_made W p v (voB x ++ x.se) h hBl
  have HH := shutX (And.intro C56 C111)
  clear C56 C111 hBl hk1 hk4 hr1 hr2 he
  generalize voB x ++ x.se = SB at *
  generalize x.cs = D at *
  go_enter Try.func105, Try.ntmps105
  go_upto_region 4 with (first | (guard_target =~ wpList _ _ _ ({ dst := _, op := Op.load 31 _, .. } :: _) _ _; refine wpList_load_mid rfl 31 (.tmp 3) rfl w.heap.size 0 rfl D _ cr Try.underlying31 rfl hz ?_) | (go_at_call 30; refine C53.mono ?_; rintro e w1 ⟨rfl, t1⟩))
  clear C53
  go_upto_region 5 with (go_at_call 110; refine (newWriter_any w1).mono ?_; rintro e w2 ⟨rfl, k2, t2⟩)
  have cr2 := HR.out w2 (t1.then_no t2)
  have C := HH.out.1 w1 w2 k2
  go_upto_region 6 with (first | (guard_target =~ wpList _ _ _ ({ dst := _, op := Op.load 31 _, .. } :: _) _ _; refine wpList_load_mid rfl 31 (.tmp 3) rfl w.heap.size 0 rfl D _ cr2 Try.underlying31 rfl hz ?_) | (go_at_call 106; refine C.mono ?_; rintro e w3 ⟨rfl, L3⟩))
  clear C
  obtain ⟨v3, k3, tt3, nn3⟩ := L3
  have C := HH.out.2 w3 _ _ k3
  have t3 : Turn no w1 w3 := t2.trans tt3 (fun i hi q => by
    rcases q with q | q
    · omega
    · cases q)
  go_wp2_with (go_at_call 111; refine C.mono ?_; rintro e w4 ⟨v4, rfl, o4, n4, t4⟩; obtain ⟨a4, l4, c4, rfl⟩ := o4.form)
  go_ret2
  have tA := (t0.then_no t1).then_no t3
  exact ⟨_, rfl, o4, fun g hg => Nat.le_trans tA.size (n4 g hg), tA.then_no t4⟩
set_option maxRecDepth 100000 in
set_option maxHeartbeats 2000000 in
theorem encVote51 (w : World) (x : Vt) (ho : x.fits) (he : plainE x = 0) : Calls Try.prog 51 #[.agg x.cs.toArray] w (Told w 0 (voB x ++ x.se)) := by
  have hz : (Try.prog.info? 31).map (·.size) = some x.cs.length := by rw [Vt.len ho.1]; exact size29
  have cr := Row.range (Row.new w x.cs.toArray 31)
  have t0 : Turn no w (w.alloc (.cells x.cs.toArray 31)) := (Turn.refl no w).alloc _
  have C := encV105 (w.alloc (.cells x.cs.toArray 31)) x ho he
  generalize voB x ++ x.se = SB at *
  generalize x.cs = D at *
  go_enter Try.func51, Try.ntmps51
  go_wp2_with (first | (guard_target =~ wpList _ _ _ ({ dst := _, op := Op.load 31 _, .. } :: _) _ _; refine wpList_load_mid rfl 31 (.tmp 1) rfl w.heap.size 0 rfl D _ cr Try.underlying31 rfl hz ?_) | (go_at_call 105; refine C.mono ?_; rintro e w5 ⟨v5, rfl, o5, n5, t5⟩; obtain ⟨a5, l5, c5, rfl⟩ := o5.form))
  go_ret2
  exact ⟨_, rfl, o5, fun g hg => Nat.le_trans t0.size (n5 g hg), t0.then_no t5⟩
end Go.Proofs.Ytpfjllkmaogafaa

/- alive. -/
namespace Go.Proofs.Ytpfjllkmaogafaa
open Go.RowKit
set_option linter.unusedVariables false

def vtO : Vt := ⟨1, 1, 0, z32, 0, 1, z16⟩
theorem vtO_fits : vtO.fits := ⟨⟨rfl, rfl⟩, by decide, by decide, by decide⟩
theorem vtO_plain : plainE vtO = 0 := by kernel_rfl
theorem vtO_back : dcVs (voB vtO ++ vtO.se) = (vtO, 0) := by kernel_rfl
theorem vtO_len : (voB vtO ++ vtO.se).length = 53 := by kernel_rfl
theorem built31_o : Try.prog.built 31 [(0, .int .i64 1), (1, .int .u64 1), (5, .int .u64 1)] = some vtO.cs.toArray := by kernel_rfl
set_option maxRecDepth 100000 in
set_option maxHeartbeats 2000000 in
theorem alive22 (w : World) : Calls Try.prog 22 #[] w fun e w' => e = .returned (.bool true) ∧ Turn no w w' := by
  have C1 := fun W => encVote51 W vtO vtO_fits vtO_plain
  have C2 := fun W v (h : Bs W v (voB vtO ++ vtO.se)) => decVote52 W v _ h (by rw [vtO_len]; omega)
  rw [vtO_back] at C2
  dsimp only at C2
  have hln := vtO_len
  have hB := built31_o
  have hxo := all_oneCell_toArray (Vt.one vtO)
  have hxs : vtO.cs.toArray.size = 53 := rfl
  have hxi : (Try.prog.info? 31).map (·.size) = some vtO.cs.toArray.size := by rw [hxs]; exact size29
  have hxil : (Try.prog.info? 31).map (·.size) = some vtO.cs.length := hxi
  have HE := shutX (fun W => eqlV W vtO vtO_fits.1)
  generalize voB vtO ++ vtO.se = B at *
  generalize vtO.cs = X at *
  have HC := shutX (And.intro C1 C2)
  clear C1 C2
  go_enter Try.func22, Try.ntmps22
  go_upto_region 2 with (first | (guard_target =~ wpList _ _ _ ({ dst := _, op := Op.build 31 _, .. } :: _) _ _; refine wpList_build_l rfl 31 _ rfl _ ?he X.toArray hB ?_; (case he => rfl)) | (guard_target =~ wpList _ _ _ ({ dst := _, op := Op.store 31 _ _, .. } :: _) _ _; refine wpList_store_row rfl 31 (.tmp 1) (.tmp 6) rfl w.heap.size X.toArray rfl rfl 31 _ (heap_alloc_new w _) hxi (by rw [hxs]; rfl) hxo ?_))
  rw [World.setRow_alloc_new]
  have r1 := Row.new w X.toArray 31
  have t1 : Turn no w (w.alloc (.cells X.toArray 31)) := (Turn.refl no w).alloc _
  have hlt := r1.lt
  generalize w.alloc (.cells X.toArray 31) = w1 at *
  generalize hg : w.heap.size = g at *
  have D1 := HC.out.1 w1
  have cr := r1.range
  go_upto_region 3 with (first | (guard_target =~ wpList _ _ _ ({ dst := _, op := Op.load 31 _, .. } :: _) _ _; refine wpList_load_mid rfl 31 (.tmp 1) rfl g 0 rfl X _ cr Try.underlying31 rfl hxil ?_) | (go_at_call 51; refine D1.mono ?_; rintro e w2 ⟨v2, rfl, o2, n2, t2⟩))
  obtain ⟨a2, c2, hv, _⟩ := o2.len
  have hb2 := o2.bs
  rw [List.length_map, hln] at hv
  subst hv
  have D2 := HC.out.2 w2 _ hb2
  clear D1 HC n2 o2 hb2 cr
  go_upto_region 4 with (first | (go_at_call 52; refine D2.mono ?_; rintro e w3 ⟨rfl, t3⟩) | (guard_target =~ wpList _ _ _ ({ dst := _, op := Op.store 31 _ _, .. } :: _) _ _; refine wpList_store_row rfl 31 (.tmp 4) (.tmp 15) rfl w3.heap.size X.toArray rfl rfl 31 _ (heap_alloc_new w3 _) hxi (by rw [hxs]; rfl) hxo ?_))
  rw [World.setRow_alloc_new]
  have r4 := (Row.new w3 X.toArray 31).range
  have R1 := ((((r1.turn t2 (fun q => q)).turn t3 (fun q => q)).alloc (.cells X.toArray 31))).range
  have T4 : Turn no w (w3.alloc (.cells X.toArray 31)) := ((t1.then_no t2).then_no t3).alloc _
  generalize w3.alloc (.cells X.toArray 31) = w4 at *
  generalize w3.heap.size = g4 at *
  have HR := shutX (And.intro R1 r4)
  clear R1 r4 r1 t1 t2 t3 D2
  go_wp2_with (first | (go_at_call 13; refine (num13 _ _).mono ?_; rintro e w9 ⟨rfl, rfl⟩) | (guard_target =~ wpList _ _ _ ({ dst := some 31, .. } :: _) _ _; refine wpList_load_midG (by kernel_rfl) 31 (.tmp 4) rfl g4 0 (by kernel_rfl) X _ HR.out.2 Try.underlying31 rfl hxil ?_) | (guard_target =~ wpList _ _ _ ({ dst := some 32, .. } :: _) _ _; refine wpList_load_midG (by kernel_rfl) 31 (.tmp 1) rfl g 0 (by kernel_rfl) X _ HR.out.1 Try.underlying31 rfl hxil ?_) | (guard_target =~ wpList _ _ _ ({ dst := some 33, .. } :: _) _ _; refine wpList_eqlG (by kernel_rfl) 31 31 (.tmp 31) (.tmp 32) rfl (.agg X.toArray) (.agg X.toArray) (by kernel_rfl) (by kernel_rfl) (.bool true) (guard31 _ _ _ _ _) (HE.out _) ?_))
  go_ret
  exact ⟨rfl, T4⟩
end Go.Proofs.Ytpfjllkmaogafaa

/- The walk of WireHeard. -/
namespace Go.Proofs.Ytpfjllkmaogafaa
open Go.RowKit
set_option linter.unusedVariables false

theorem wpList_neqG {P : Program} {ops : Array Oper} {rest : List Oper} {op : Oper} {a : Act} {w : World} {Q : Exit → Act → World → Prop} (hgd : Region.wanted op (yielded ops a.tmps) = true) (t t2 : TypeId) (x y : Operand) (ho : op.op = .binOp .neq t x y t2) (vx vy : Value) (hx : a.eval x = vx) (hy : a.eval y = vy) (r : Value) (hq : (eqGuard .neq t x y vx vy).run P w = .ok () w) (hr : (binOp .neq t vx vy).run P w = .ok r w) (h : wpList P ops Q rest (a.put op.dst r) w) : wpList P ops Q (op :: rest) a w :=
  wpList_want hgd fun K hK => by
    unfold Oper.wp execOp
    simp only [ho, hx, hy, Sem.run_bind, hq, hr, Result.andThen_ok, Sem.run_pure]
    exact hK _ _ h
theorem wpList_buildG {P : Program} {ops : Array Oper} {rest : List Oper} {op : Oper} {a : Act} {w : World} {Q : Exit → Act → World → Prop} (hgd : Region.wanted op (yielded ops a.tmps) = true) (t : TypeId) (ho : op.op = .build t #[]) (r : Value) (hr : (Instr.build t #[]).run P w = .ok r w) (h : wpList P ops Q rest (a.put op.dst r) w) : wpList P ops Q (op :: rest) a w :=
  wpList_want hgd fun K hK => by
    unfold Oper.wp execOp
    simp only [ho, Sem.run_bind, List.map_toArray, List.map_nil, hr, Result.andThen_ok, Sem.run_pure]
    exact hK _ _ h
theorem build25 (w : World) : (Instr.build 25 #[]).run Try.prog w = .ok (.agg (z16.map bv).toArray) w := by kernel_rfl
theorem guard25n (w : World) (x y : Operand) (A B : Array Value) : (eqGuard .neq 25 x y (.agg A) (.agg B)).run Try.prog w = .ok () w := by kernel_rfl
theorem guard25e (w : World) (x y : Operand) (A B : Array Value) : (eqGuard .eql 25 x y (.agg A) (.agg B)).run Try.prog w = .ok () w := by kernel_rfl
theorem neq25 (w : World) : (binOp .neq 25 (.agg (z16.map bv).toArray) (.agg (z16.map bv).toArray)).run Try.prog w = .ok (.bool false) w := by
  rw [run_neq_struct, eqIn27 w 9998 z16 z16 rfl rfl]
  rfl
theorem eql25 (w : World) : (binOp .eql 25 (.agg (z16.map bv).toArray) (.agg (z16.map bv).toArray)).run Try.prog w = .ok (.bool true) w := by
  rw [run_eql_struct, eqIn27 w 9998 z16 z16 rfl rfl]
  rfl
theorem Po.cse {x : Po} (h : x.ok) (j : Nat) (u : Value) (hu : (x.se.map bv)[j]? = some u) : x.cs.toArray[36 + j]? = some u := by
  have h1 := h.1
  rw [show 36 + j = (33 + j) + 1 + 1 + 1 by omega]
  simp only [Po.cs, List.getElem?_toArray, List.getElem?_cons_succ]
  rw [List.getElem?_append_right (by simp; omega)]
  rw [show 33 + j - (x.id.map bv).length = j + 1 by simp; omega]
  simp only [List.getElem?_cons_succ]
  exact hu
set_option maxRecDepth 100000 in
set_option maxHeartbeats 4000000 in
theorem heard5 (w : World) (v : Value) (bs : List UInt8) (hb : Bs w v bs) (hle : bs.length ≤ 140737488355328) :
    Calls Try.prog 5 #[v] w fun e w' => e = .returned (.bool true) ∧ Turn no w w' := by
  have hokV := anV_ok bs
  have hokP := anP_ok bs
  have C17 := fun W (t : Turn no w W) => readVote17 W v bs (hb.turn_no t) hle
  have C18 := fun W (t : Turn no w W) => readProp18 W v bs (hb.turn_no t) hle
  obtain ⟨ch, x, er, hV⟩ : ∃ ch x er, anV bs = (ch, x, er) := ⟨_, _, _, rfl⟩
  obtain ⟨dh, y, fr, hP⟩ : ∃ ch x er, anP bs = (ch, x, er) := ⟨_, _, _, rfl⟩
  rw [hV] at hokV C17
  rw [hP] at hokP C18
  dsimp only at hokV hokP C17 C18
  have CS := fun W v' (t : Turn no w W) (h : Bs W v' bs) => same14 W v' v bs bs h (hb.turn_no t)
  have C8 := fun W => voteBytes8 W ch x hokV
  have C9 := fun W => propBytes9 W dh y hokP
  have hxo := all_oneCell_toArray (Vt.one x)
  have hxs : x.cs.toArray.size = 53 := Vt.size hokV.1
  have hxi : (Try.prog.info? 31).map (·.size) = some x.cs.toArray.size := by rw [hxs]; exact size29
  have hyo := all_oneCell_toArray (Po.one y)
  have hys : y.cs.toArray.size = 52 := Po.size y hokP.1 hokP.2.1
  have hyi : (Try.prog.info? 33).map (·.size) = some y.cs.toArray.size := by rw [hys]; kernel_rfl
  have hxil : (Try.prog.info? 31).map (·.size) = some x.cs.length := by rw [Vt.len hokV.1]; exact size29
  have hyil : (Try.prog.info? 33).map (·.size) = some y.cs.length := by rw [Po.len hokP]; kernel_rfl
  have hi25 : (Try.prog.info? 25).map (·.size) = some (z16.map bv).length := by kernel_rfl
  rw [beq_self_eq_true] at CS
  by_cases he : er = 0
  · subst he
    obtain ⟨f1, f2, f3, f4, f5⟩ := anV_form bs ch x hV
    have hfr : fr ≠ 0 := fun q => by
      subst q
      have := (anP_form bs dh y hP).2.2.2.1
      rw [f4] at this
      exact absurd this (by decide)
    have hf1 : (fr != 0) = true := by simpa using hfr
    rw [f1, f2] at C8
    have HS := shutX (fun (W : World) (g : Nat) (r : Row W g x.cs.toArray 31) => (fun j u hu => r.cell (37 + j) _ (Vt.cse hokV.1 j u (by rw [f3]; exact hu)) : W.rangeAt g 37 (z16.map bv)))
    generalize x.cs = X at *
    generalize y.cs = Y at *
    obtain ⟨va, vc, rfl⟩ := hb.slice
    generalize hN : bs.length = N at *
    clear hb hokV hokP hV hP f1 f2 f3 f4 f5 hfr C9
    go_enter Try.func5, Try.ntmps5
    go_upto_region 3 with (go_at_call 22; refine (alive22 _).mono ?_; rintro e' w1 ⟨rfl, t1⟩)
    have D1 := C17 w1 t1
    go_upto_region 4 with (first | (go_at_call 17; refine D1.mono ?_; rintro e' w2 ⟨rfl, t2⟩) | (guard_target =~ wpList _ _ _ ({ dst := _, op := Op.store 31 _ _, .. } :: _) _ _; refine wpList_store_row rfl 31 (.tmp 4) (.tmp 19) rfl w2.heap.size X.toArray rfl rfl 31 _ (heap_alloc_new w2 _) hxi (by rw [hxs]; rfl) hxo ?_))
    rw [World.setRow_alloc_new]
    have r2 := Row.new w2 X.toArray 31
    have T2 : Turn no w (w2.alloc (.cells X.toArray 31)) := (t1.then_no t2).alloc _
    generalize w2.alloc (.cells X.toArray 31) = y2 at *
    generalize w2.heap.size = g2 at *
    clear D1 t1 t2
    have D2 := C8 y2
    have cr := r2.range
    go_upto_region 6 with (first | (go_at_call 13; refine (num13 _ _).mono ?_; rintro e' w9 ⟨rfl, rfl⟩) | (guard_target =~ wpList _ _ _ ({ dst := _, op := Op.load 31 _, .. } :: _) _ _; refine wpList_load_mid rfl 31 (.tmp 4) rfl g2 0 rfl X _ cr Try.underlying31 rfl hxil ?_) | (go_at_call 8; refine D2.mono ?_; rintro e' w4 ⟨v4, rfl, o4, n4, t4⟩))
    have T4 := T2.then_no t4
    have D5 := CS w4 v4 T4 o4.bs
    have R4 := HS.out w4 g2 (r2.turn t4 (fun q => q))
    obtain ⟨a4, l4, c4, rfl⟩ := o4.form
    have HR := shutX R4
    clear R4 D2 cr HS o4 n4 C8 CS
    go_upto_region 8 with (first | (go_at_call 13; refine (num13 _ _).mono ?_; rintro e' w9 ⟨rfl, h9⟩; have h9' := h9; subst h9') | (go_at_call 14; refine D5.mono ?_; rintro e' w5 ⟨rfl, n5, rfl⟩) | (guard_target =~ wpList _ _ _ ({ dst := some 41, .. } :: _) _ _; refine wpList_load_midG (by kernel_rfl) 25 (.tmp 40) rfl g2 37 (by kernel_rfl) (z16.map bv) _ (fun j u hu => HR.out j u hu) Try.underlying25 rfl hi25 ?_) | (guard_target =~ wpList _ _ _ ({ dst := some 42, .. } :: _) _ _; refine wpList_buildG (by kernel_rfl) 25 rfl _ (build25 _) ?_) | (guard_target =~ wpList _ _ _ ({ dst := some 43, .. } :: _) _ _; refine wpList_neqG (by kernel_rfl) 25 25 (.tmp 41) (.tmp 42) rfl (.agg (z16.map bv).toArray) (.agg (z16.map bv).toArray) (by kernel_rfl) (by kernel_rfl) (.bool false) (guard25n _ _ _ _ _) (neq25 _) ?_))
    have T5 := T4.drewN n5
    clear D5 HR
    generalize w4.drewN n5 = y5 at *
    have D3 := C18 y5 T5
    go_upto_region 9 with (first | (go_at_call 18; refine D3.mono ?_; rintro e' w3 ⟨rfl, t3⟩) | (guard_target =~ wpList _ _ _ ({ dst := _, op := Op.store 33 _ _, .. } :: _) _ _; refine wpList_store_row rfl 33 (.tmp 9) (.tmp 49) rfl w3.heap.size Y.toArray rfl rfl 33 _ (heap_alloc_new w3 _) hyi (by rw [hys]; rfl) hyo ?_))
    rw [World.setRow_alloc_new]
    have r3 := Row.new w3 Y.toArray 33
    have T3 : Turn no w (w3.alloc (.cells Y.toArray 33)) := (Turn.then_no T5 t3).alloc _
    generalize w3.alloc (.cells Y.toArray 33) = y3 at *
    generalize w3.heap.size = g3 at *
    clear D3 t3
    go_wp2_with (first | (go_at_call 13; refine (num13 _ _).mono ?_; rintro e' w9 ⟨rfl, rfl⟩))
    go_ret
    exact ⟨rfl, T3⟩
  · have he1 : (er == 0) = false := by simpa using he
    have he2 : (er != 0) = true := by simpa using he
    by_cases hf : fr = 0
    · subst hf
      obtain ⟨f1, f2, f3, f4, f5⟩ := anP_form bs dh y hP
      rw [f1, f2] at C9
      have HS := shutX (fun (W : World) (g : Nat) (r : Row W g y.cs.toArray 33) => (fun j u hu => r.cell (36 + j) _ (Po.cse hokP j u (by rw [f3]; exact hu)) : W.rangeAt g 36 (z16.map bv)))
      generalize x.cs = X at *
      generalize y.cs = Y at *
      obtain ⟨va, vc, rfl⟩ := hb.slice
      generalize hN : bs.length = N at *
      clear hb hokV hokP hV hP f1 f2 f3 f4 f5 C8
      go_enter Try.func5, Try.ntmps5
      go_upto_region 3 with (go_at_call 22; refine (alive22 _).mono ?_; rintro e' w1 ⟨rfl, t1⟩)
      have D1 := C17 w1 t1
      go_upto_region 4 with (first | (go_at_call 17; refine D1.mono ?_; rintro e' w2 ⟨rfl, t2⟩) | (guard_target =~ wpList _ _ _ ({ dst := _, op := Op.store 31 _ _, .. } :: _) _ _; refine wpList_store_row rfl 31 (.tmp 4) (.tmp 19) rfl w2.heap.size X.toArray rfl rfl 31 _ (heap_alloc_new w2 _) hxi (by rw [hxs]; rfl) hxo ?_))
      rw [World.setRow_alloc_new]
      have r2 := Row.new w2 X.toArray 31
      have T2 : Turn no w (w2.alloc (.cells X.toArray 31)) := (t1.then_no t2).alloc _
      generalize w2.alloc (.cells X.toArray 31) = y2 at *
      generalize w2.heap.size = g2 at *
      clear D1 t1 t2
      have D3 := C18 y2 T2
      go_upto_region 9 with (first | (go_at_call 13; refine (num13 _ _).mono ?_; rintro e' w9 ⟨rfl, rfl⟩) | (go_at_call 18; refine D3.mono ?_; rintro e' w3 ⟨rfl, t3⟩) | (guard_target =~ wpList _ _ _ ({ dst := _, op := Op.store 33 _ _, .. } :: _) _ _; refine wpList_store_row rfl 33 (.tmp 9) (.tmp 49) rfl w3.heap.size Y.toArray rfl rfl 33 _ (heap_alloc_new w3 _) hyi (by rw [hys]; rfl) hyo ?_))
      rw [World.setRow_alloc_new]
      have r3 := Row.new w3 Y.toArray 33
      have T3 : Turn no w (w3.alloc (.cells Y.toArray 33)) := (Turn.then_no T2 t3).alloc _
      generalize w3.alloc (.cells Y.toArray 33) = y3 at *
      generalize w3.heap.size = g3 at *
      clear D3 t3
      have D2 := C9 y3
      have cr := r3.range
      go_upto_region 12 with (first | (go_at_call 13; refine (num13 _ _).mono ?_; rintro e' w9 ⟨rfl, rfl⟩) | (guard_target =~ wpList _ _ _ ({ dst := _, op := Op.load 33 _, .. } :: _) _ _; refine wpList_load_mid rfl 33 (.tmp 9) rfl g3 0 rfl Y _ cr Try.underlying33 rfl hyil ?_) | (go_at_call 9; refine D2.mono ?_; rintro e' w4 ⟨v4, rfl, o4, n4, t4⟩))
      have T4 := T3.then_no t4
      have D5 := CS w4 v4 T4 o4.bs
      have R4 := HS.out w4 g3 (r3.turn t4 (fun q => q))
      obtain ⟨a4, l4, c4, rfl⟩ := o4.form
      have HR := shutX R4
      clear R4 D2 cr HS o4 n4 C9 CS
      go_wp2_with (first | (go_at_call 13; refine (num13 _ _).mono ?_; rintro e' w9 ⟨rfl, h9⟩; have h9' := h9; subst h9') | (go_at_call 14; refine D5.mono ?_; rintro e' w5 ⟨rfl, n5, rfl⟩) | (guard_target =~ wpList _ _ _ ({ dst := some 70, .. } :: _) _ _; refine wpList_load_midG (by kernel_rfl) 25 (.tmp 69) rfl g3 36 (by kernel_rfl) (z16.map bv) _ (fun j u hu => HR.out j u hu) Try.underlying25 rfl hi25 ?_) | (guard_target =~ wpList _ _ _ ({ dst := some 71, .. } :: _) _ _; refine wpList_buildG (by kernel_rfl) 25 rfl _ (build25 _) ?_) | (guard_target =~ wpList _ _ _ ({ dst := some 72, .. } :: _) _ _; refine wpList_eqlG (by kernel_rfl) 25 25 (.tmp 70) (.tmp 71) rfl (.agg (z16.map bv).toArray) (.agg (z16.map bv).toArray) (by kernel_rfl) (by kernel_rfl) (.bool true) (guard25e _ _ _ _ _) (eql25 _) ?_))
      go_ret
      exact ⟨rfl, T4.drewN n5⟩
    · have hf1 : (fr != 0) = true := by simpa using hf
      generalize x.cs = X at *
      generalize y.cs = Y at *
      obtain ⟨va, vc, rfl⟩ := hb.slice
      generalize hN : bs.length = N at *
      clear hb hokV hokP hV hP C8 C9
      go_enter Try.func5, Try.ntmps5
      go_upto_region 3 with (go_at_call 22; refine (alive22 _).mono ?_; rintro e' w1 ⟨rfl, t1⟩)
      have D1 := C17 w1 t1
      go_upto_region 4 with (first | (go_at_call 17; refine D1.mono ?_; rintro e' w2 ⟨rfl, t2⟩) | (guard_target =~ wpList _ _ _ ({ dst := _, op := Op.store 31 _ _, .. } :: _) _ _; refine wpList_store_row rfl 31 (.tmp 4) (.tmp 19) rfl w2.heap.size X.toArray rfl rfl 31 _ (heap_alloc_new w2 _) hxi (by rw [hxs]; rfl) hxo ?_))
      rw [World.setRow_alloc_new]
      have r2 := Row.new w2 X.toArray 31
      have T2 : Turn no w (w2.alloc (.cells X.toArray 31)) := (t1.then_no t2).alloc _
      generalize w2.alloc (.cells X.toArray 31) = y2 at *
      generalize w2.heap.size = g2 at *
      clear D1 t1 t2
      have D3 := C18 y2 T2
      go_upto_region 9 with (first | (go_at_call 13; refine (num13 _ _).mono ?_; rintro e' w9 ⟨rfl, rfl⟩) | (go_at_call 18; refine D3.mono ?_; rintro e' w3 ⟨rfl, t3⟩) | (guard_target =~ wpList _ _ _ ({ dst := _, op := Op.store 33 _ _, .. } :: _) _ _; refine wpList_store_row rfl 33 (.tmp 9) (.tmp 49) rfl w3.heap.size Y.toArray rfl rfl 33 _ (heap_alloc_new w3 _) hyi (by rw [hys]; rfl) hyo ?_))
      rw [World.setRow_alloc_new]
      have r3 := Row.new w3 Y.toArray 33
      have T3 : Turn no w (w3.alloc (.cells Y.toArray 33)) := (Turn.then_no T2 t3).alloc _
      generalize w3.alloc (.cells Y.toArray 33) = y3 at *
      generalize w3.heap.size = g3 at *
      clear D3 t3
      go_wp2_with (first | (go_at_call 13; refine (num13 _ _).mono ?_; rintro e' w9 ⟨rfl, rfl⟩))
      go_ret
      exact ⟨rfl, T3⟩
end Go.Proofs.Ytpfjllkmaogafaa
