/- R11, R12, R13 in one. -/
import Derived.Test.YtpfjllkmaogafaaRc
import Derived.Test.YtpfjllkmaogafaaU2
/- Votes: decodeStatement, and what can be read of what is signed. -/
namespace Go.Proofs.Ytpfjllkmaogafaa
open Go.RowKit
set_option linter.unusedVariables false

theorem ite_mpr {c : Prop} [Decidable c] {a b : Prop} (h : c) (k : a) : if c then a else b := by rw [if_pos h]; exact k

/-- What is answered. -/
def anV (bs : List UInt8) : ByteArray × Vt × Int := if 0 < bs.length ∧ bs.getD 0 0 ≠ 86 then (⟨#[]⟩, zeroVt, 40) else dcV bs
theorem zeroVt_fits : zeroVt.fits := ⟨⟨rfl, rfl⟩, by decide, by decide, by decide⟩
theorem dcV_ok (bs : List UInt8) : (dcV bs).2.1.fits := by
  have h : (rdSv bs 0 0).2.1.fits := rdV_fits bs _ _ (gT_le bs _ _ 16 (gB_le bs 0 0 (Nat.zero_le _)))
  unfold dcV
  dsimp only
  generalize (if rend bs (rdSv bs 0 0).2.2.1 (rdSv bs 0 0).2.2.2 = 0 then plainSv (rdSv bs 0 0).1 (rdSv bs 0 0).2.1 else rend bs (rdSv bs 0 0).2.2.1 (rdSv bs 0 0).2.2.2) = e2
  by_cases q : e2 = 0
  · rw [if_pos q]; exact h
  · rw [if_neg q]; exact zeroVt_fits
theorem anV_ok (bs : List UInt8) : (anV bs).2.1.fits := by
  unfold anV
  split
  · exact zeroVt_fits
  · exact dcV_ok bs
set_option maxRecDepth 100000 in
set_option maxHeartbeats 2000000 in
theorem decSt43 (w : World) (v : Value) (bs : List UInt8) (hb : Bs w v bs) (hle : bs.length ≤ 140737488355328) :
    Calls Try.prog 43 #[.int .u8 86, v, .func (.func 30) #[] #[], .func (.func 44) #[] #[]] w fun e w' => e = .returned (.tuple #[.string (anV bs).1, .agg (anV bs).2.1.cs.toArray, .int .i64 (anV bs).2.2]) ∧ Turn no w w' := by
  obtain ⟨w3, hw3⟩ : ∃ W, ((w.alloc (.cells #[.func (.func 30) #[] #[]] 73)).alloc (.cells #[.func (.func 44) #[] #[]] 89)).alloc (.cells zeroVt.cs.toArray 31) = W := ⟨_, rfl⟩
  have r0 : Row w3 w.heap.size #[.func (.func 30) #[] #[]] 73 := by rw [← hw3]; exact (((Row.new w _ 73).alloc _).alloc _)
  have r1 : Row w3 (w.heap.size + 1) #[.func (.func 44) #[] #[]] 89 := by rw [← hw3]; exact (Row.newAt _ _ 89 _ (by simp)).alloc _
  have r2 : Row w3 (w.heap.size + 1 + 1) zeroVt.cs.toArray 31 := by rw [← hw3]; exact Row.newAt _ _ 31 _ (by simp)
  have t3 : Turn no w w3 := by rw [← hw3]; exact (((Turn.refl no w).alloc _).alloc _).alloc _
  have hs3 : w.heap.size + 1 + 1 + 1 = w3.heap.size := by rw [← hw3]; simp
  have hb3 := hb.turn_no t3
  have D := dec86 w3 v bs hb3 hle (w.heap.size + 1) w.heap.size (r1.cell 0 _ rfl) (r0.cell 0 _ rfl)
  have hok := dcV_ok bs
  have hzl : zeroVt.cs.toArray.size = 53 := rfl
  have hzo := all_oneCell_toArray (Vt.one zeroVt)
  have hzi : (Try.prog.info? 31).map (·.size) = some zeroVt.cs.toArray.size := by rw [hzl]; exact size29
  unfold anV
  by_cases hn : 0 < bs.length ∧ bs.getD 0 0 ≠ 86
  · rw [if_pos hn]
    dsimp only
    obtain ⟨b0, o0, c0, rfl, hle0, hcell⟩ := hb3.at hn.1
    have hc0 := hcell 0 hn.1
    have hq : (((bs.getD 0 0).toNat : Int) != 86) = true := by
      have h1 := hn.2
      have h2 : (bs.getD 0 0).toNat ≠ 86 := fun q => h1 (UInt8.toNat_inj.1 q)
      exact bne_iff_ne.2 (by omega)
    have hpos : (0 : Int) < (bs.length : Int) := by have := hn.1; omega
    rw [Nat.add_zero] at hc0
    clear D hb3 hcell hb hn hle
    generalize bs.getD 0 0 = y at *
    generalize bs.length = N at *
    generalize hZq : zeroVt.cs.toArray = Z at *
    go_enter Try.func43, Try.ntmps43
    go_upto_region 1 with fail
    obtain ⟨Z1, hZ1, hZe⟩ : ∃ Z1 : Array Value, Z1 = #[.int .i64 0, .int .u64 0, .int .i64 0, .int .u8 0, .int .u8 0, .int .u8 0, .int .u8 0, .int .u8 0, .int .u8 0, .int .u8 0, .int .u8 0, .int .u8 0, .int .u8 0, .int .u8 0, .int .u8 0, .int .u8 0, .int .u8 0, .int .u8 0, .int .u8 0, .int .u8 0, .int .u8 0, .int .u8 0, .int .u8 0, .int .u8 0, .int .u8 0, .int .u8 0, .int .u8 0, .int .u8 0, .int .u8 0, .int .u8 0, .int .u8 0, .int .u8 0, .int .u8 0, .int .u8 0, .int .u8 0, .int .u64 0, .int .u64 0, .int .u8 0, .int .u8 0, .int .u8 0, .int .u8 0, .int .u8 0, .int .u8 0, .int .u8 0, .int .u8 0, .int .u8 0, .int .u8 0, .int .u8 0, .int .u8 0, .int .u8 0, .int .u8 0, .int .u8 0, .int .u8 0] ∧ Z1 = zeroVt.cs.toArray := ⟨_, rfl, rfl⟩
    rw [← hZ1, hZe, hZq, hw3]
    clear hZ1 hZe Z1 hw3
    generalize hg : w.heap.size = g at *
    have hg2 : g < g + 1 + 1 := by omega
    generalize hg3 : g + 1 + 1 = g2 at *
    go_upto_region 3 with fail
    obtain ⟨Z1, hZ1, hZe⟩ : ∃ Z1 : Array Value, Z1 = #[.int .i64 0, .int .u64 0, .int .i64 0, .int .u8 0, .int .u8 0, .int .u8 0, .int .u8 0, .int .u8 0, .int .u8 0, .int .u8 0, .int .u8 0, .int .u8 0, .int .u8 0, .int .u8 0, .int .u8 0, .int .u8 0, .int .u8 0, .int .u8 0, .int .u8 0, .int .u8 0, .int .u8 0, .int .u8 0, .int .u8 0, .int .u8 0, .int .u8 0, .int .u8 0, .int .u8 0, .int .u8 0, .int .u8 0, .int .u8 0, .int .u8 0, .int .u8 0, .int .u8 0, .int .u8 0, .int .u8 0, .int .u64 0, .int .u64 0, .int .u8 0, .int .u8 0, .int .u8 0, .int .u8 0, .int .u8 0, .int .u8 0, .int .u8 0, .int .u8 0, .int .u8 0, .int .u8 0, .int .u8 0, .int .u8 0, .int .u8 0, .int .u8 0, .int .u8 0, .int .u8 0] ∧ Z1 = zeroVt.cs.toArray := ⟨_, rfl, rfl⟩
    rw [← hZ1, hZe, hZq]
    clear hZ1 hZe Z1
    have R4 := Row.new w3 Z 31
    have A4 := r2.alloc (.cells Z 31)
    have T4 := t3.alloc (.cells Z 31)
    rw [← hs3] at *
    generalize w3.alloc (.cells Z 31) = w4 at *
    have S5 : Turn (fun k => k = g2) w4 w4.drew := (Turn.refl _ w4).drew
    have S6 : Turn (fun k => k = g2) w4 (w4.drew.setRow (g2) Z) := S5.setRow _ _ (fun _ => rfl)
    have T6 : Turn no w (w4.drew.setRow (g2) Z) := T4.drew.setRow _ _ (fun q => by omega)
    have hz' : (w4.drew.setRow (g2) Z).heap[g2]? = some (.cells Z 31 (0, 0)) := setRow_heap _ _ _ _ _ _ A4.drew
    refine wp_region_held_drew (S := fun W => Turn (fun k => k = g2) w4 W) (by kernel_rfl) (Turn.refl _ w4).drew (fun hHeld => ?_)
    refine' wpAnyH_take (i := 1) (v := .string ⟨#[]⟩) rfl (by kernel_rfl) (by kernel_rfl) (by kernel_rfl) (fun _ _ _ h => h) (Or.inl ⟨by kernel_rfl, fun W hW => ?y1⟩) hHeld ?r1
    · go_simp
    refine wpAnyH_ready (rs := [0]) (by kernel_rfl) (by simp) ?_
    refine AllReadyH.cons rfl (fun K hK => ?_) AllReadyH.nil
    refine ite_mpr (by kernel_rfl) ?_
    refine wp_load_row 31 (.tmp 11) (by kernel_rfl) (g2 + 1) (by kernel_rfl) 31 Z (0, 0) _ R4.drew Try.underlying31 rfl hzi ?_
    refine hK.out _ _ S5 (fun hHeld => ?_)
    clear hK
    refine wpAnyH_ready (rs := [2]) (by kernel_rfl) (by simp) ?_
    refine AllReadyH.cons rfl (fun K hK => ?_) AllReadyH.nil
    refine ite_mpr (by kernel_rfl) ?_
    refine wp_store_row 31 (.tmp 9) (.tmp 25) (by kernel_rfl) g2 Z (by kernel_rfl) (by kernel_rfl) 31 Z A4.drew hzi rfl hzo ?_
    refine hK.out _ _ S6 (fun hHeld => ?_)
    clear hK
    refine' wpAnyH_take (i := 3) (v := .int .i64 40) rfl (by kernel_rfl) (by kernel_rfl) (by kernel_rfl) (fun _ _ _ h => h) (Or.inl ⟨by kernel_rfl, fun W hW => ?y2⟩) hHeld ?r2
    · go_simp
    refine wpAnyH_done (by kernel_rfl) ?_ _
    go_wp2_with fail
    refine bodyPost_ret (v := .tuple #[.string ⟨#[]⟩, .agg Z, .int .i64 40]) ?_ rfl ⟨rfl, T6⟩
    exact results_tmp_cell_tmp (P := Try.prog) Try.results43 _ _ (g2) 31 Z (0, 0) _ rfl hz' Try.underlying31 rfl hzi
  · rw [if_neg hn]
    generalize dcV bs = a at *
    obtain ⟨ch, x, er⟩ := a
    dsimp only at *
    have hlS : (stCv ch x).toArray.size = 54 := by simpa using stCv_len (ch := ch) hok
    have hoS := stCv_one ch x
    have hiS : (Try.prog.info? 72).map (·.size) = some (stCv ch x).toArray.size := by rw [hlS]; exact size72
    have hlx : x.cs.length = 53 := Vt.len hok.1
    have hox := all_oneCell_toArray (Vt.one x)
    have hix : (Try.prog.info? 31).map (·.size) = some x.cs.length := by rw [hlx]; exact size29
    have hsx : x.cs.toArray.size = 53 := by simpa using hlx
    have hix' : (Try.prog.info? 31).map (·.size) = some x.cs.toArray.size := by rw [hsx]; exact size29
    have HF := shutX (fun (W : World) (q : Nat) (r : Row W q (stCv ch x).toArray 72) => r.stv)
    generalize (stCv ch x).toArray = SS at *
    generalize hXq : x.cs = X at *
    generalize hZq : zeroVt.cs.toArray = Z at *
    clear hok
    by_cases h0 : 0 < bs.length
    · obtain ⟨b0, o0, c0, rfl, hle0, hcell⟩ := hb3.at h0
      have hc0 := hcell 0 h0
      have hlet : bs.getD 0 0 = 86 := Classical.byContradiction fun q => hn ⟨h0, q⟩
      rw [Nat.add_zero, hlet] at hc0
      have hc0 : w3.cell? ⟨b0, o0, none⟩ = some (.int .u8 86) := hc0
      have hpos : (0 : Int) < (bs.length : Int) := by omega
      clear hb3 hcell hb hn hlet h0 hle
      generalize bs.length = N at *
      go_enter Try.func43, Try.ntmps43
      go_upto_region 1 with fail
      obtain ⟨Z1, hZ1, hZe⟩ : ∃ Z1 : Array Value, Z1 = #[.int .i64 0, .int .u64 0, .int .i64 0, .int .u8 0, .int .u8 0, .int .u8 0, .int .u8 0, .int .u8 0, .int .u8 0, .int .u8 0, .int .u8 0, .int .u8 0, .int .u8 0, .int .u8 0, .int .u8 0, .int .u8 0, .int .u8 0, .int .u8 0, .int .u8 0, .int .u8 0, .int .u8 0, .int .u8 0, .int .u8 0, .int .u8 0, .int .u8 0, .int .u8 0, .int .u8 0, .int .u8 0, .int .u8 0, .int .u8 0, .int .u8 0, .int .u8 0, .int .u8 0, .int .u8 0, .int .u8 0, .int .u64 0, .int .u64 0, .int .u8 0, .int .u8 0, .int .u8 0, .int .u8 0, .int .u8 0, .int .u8 0, .int .u8 0, .int .u8 0, .int .u8 0, .int .u8 0, .int .u8 0, .int .u8 0, .int .u8 0, .int .u8 0, .int .u8 0, .int .u8 0] ∧ Z1 = zeroVt.cs.toArray := ⟨_, rfl, rfl⟩
      rw [← hZ1, hZe, hZq, hw3]
      clear hZ1 hZe Z1 hw3
      generalize hg : w.heap.size = g at *
      generalize hg3 : g + 1 + 1 = g2 at *
      go_upto_region 6 with (first | (go_at_call 86; refine D.mono ?_; rintro e w5 ⟨rfl, t5⟩) | (guard_target =~ wpList _ _ _ ({ dst := _, op := Op.store 72 _ _, .. } :: _) _ _; refine wpList_store_row rfl 72 (.tmp 13) (.tmp 32) rfl w5.heap.size SS rfl rfl 72 _ (heap_alloc_new w5 _) hiS (by rw [hlS]; rfl) hoS ?_))
      rw [World.setRow_alloc_new]
      have hs5 := t5.size
      have R6 := Row.new w5 SS 72
      have A6 := (r2.turn t5 (fun q => q)).alloc (.cells SS 72)
      have T6 := (t3.then_no t5).alloc (.cells SS 72)
      generalize w5.alloc (.cells SS 72) = w6 at *
      obtain ⟨f0, f1, -⟩ := HF.out w6 _ R6
      have hne : w5.heap.size ≠ g2 := by omega
      generalize w5.heap.size = q5 at *
      clear hs5 D hs3
      have S7 : Turn (fun k => k = g2) w6 w6.drew := (Turn.refl _ w6).drew
      have S8 : Turn (fun k => k = g2) w6 (w6.drew.setRow (g2) X.toArray) := S7.setRow _ _ (fun _ => rfl)
      have T8 : Turn no w (w6.drew.setRow (g2) X.toArray) := T6.drew.setRow _ _ (fun q => by omega)
      have hz' : (w6.drew.setRow (g2) X.toArray).heap[g2]? = some (.cells X.toArray 31 (0, 0)) := setRow_heap _ _ _ _ _ _ A6.drew
      have HR := shutX (fun W (t : Turn (fun k => k = g2) w6 W) => (fun j u hu => t.keep (f1 j u hu) (fun q => hne q) : W.rangeAt q5 1 X))
      clear f1
      refine wp_region_held_drew (S := fun W => Turn (fun k => k = g2) w6 W) (by kernel_rfl) (Turn.refl _ w6).drew (fun hHeld => ?_)
      refine' wpAnyH_take (i := 0) (v := .pointer (some ⟨q5, 0, none⟩)) rfl (by kernel_rfl) (by kernel_rfl) (by kernel_rfl) (fun _ _ _ h => h) (Or.inl ⟨by kernel_rfl, fun W hW => ?y3⟩) hHeld ?r3
      · go_simp
      refine' wpAnyH_take (i := 2) (v := .pointer (some ⟨q5, 1, none⟩)) rfl (by kernel_rfl) (by kernel_rfl) (by kernel_rfl) (fun _ _ _ h => h) (Or.inl ⟨by kernel_rfl, fun W hW => ?y4⟩) hHeld ?r4
      · go_simp
      refine' wpAnyH_take (i := 4) (v := .int .i64 er) rfl (by kernel_rfl) (by kernel_rfl) (by kernel_rfl) (fun _ _ _ h => h) (Or.inl ⟨by kernel_rfl, fun W hW => ?y5⟩) hHeld ?r5
      · go_simp
      refine' wpAnyH_take (i := 1) (v := .string ch) rfl (by kernel_rfl) (by kernel_rfl) (by kernel_rfl) (fun _ _ _ h => h) (Or.inl ⟨by kernel_rfl, fun W hW => ?y6⟩) hHeld ?r6
      · have hq := hW.keep f0 (fun q => hne q)
        go_simp
      refine' wpAnyH_take (i := 5) (v := .string ch) rfl (by kernel_rfl) (by kernel_rfl) (by kernel_rfl) (fun _ _ _ h => h) (Or.inl ⟨by kernel_rfl, fun W hW => ?y7⟩) hHeld ?r7
      · go_simp
      refine' wpAnyH_take (i := 3) (v := .agg X.toArray) rfl (by kernel_rfl) (by kernel_rfl) (by kernel_rfl) (fun _ _ _ h => h) (yieldsIf_load_mid (by kernel_rfl) 31 (.tmp 36) rfl q5 1 (by kernel_rfl) X _ (fun W h => HR.out W h) Try.underlying31 rfl hix) hHeld ?s4
      simp only [List.getElem_toArray, List.getElem_cons_succ, List.getElem_cons_zero, Act.put, List.setIfInBounds_toArray, List.set_cons_zero, List.set_cons_succ]
      refine wpAnyH_ready (rs := [6]) (by kernel_rfl) (by simp) ?_
      refine AllReadyH.cons rfl (fun K hK => ?_) AllReadyH.nil
      refine ite_mpr (by kernel_rfl) ?_
      refine wp_store_row 31 (.tmp 9) (.tmp 37) (by kernel_rfl) g2 X.toArray (by kernel_rfl) (by kernel_rfl) 31 Z A6.drew hix' (by rw [hzl, hsx]) hox ?_
      refine hK.out _ _ S8 (fun hHeld => ?_)
      clear hK
      refine' wpAnyH_take (i := 7) (v := .int .i64 er) rfl (by kernel_rfl) (by kernel_rfl) (by kernel_rfl) (fun _ _ _ h => h) (Or.inl ⟨by kernel_rfl, fun W hW => ?y8⟩) hHeld ?r8
      · go_simp
      refine wpAnyH_done (by kernel_rfl) ?_ _
      go_wp2_with fail
      refine bodyPost_ret (v := .tuple #[.string ch, .agg X.toArray, .int .i64 er]) ?_ rfl ⟨rfl, T8⟩
      exact results_tmp_cell_tmp (P := Try.prog) Try.results43 _ _ (g2) 31 X.toArray (0, 0) _ rfl hz' Try.underlying31 rfl hix'
    · have hE : bs = [] := List.eq_nil_of_length_eq_zero (by omega)
      obtain ⟨b0, c0, rfl⟩ := hb3.slice
      subst hE
      clear hb3 hb hn h0 hle
      dsimp only [List.length_nil] at *
      go_enter Try.func43, Try.ntmps43
      go_upto_region 1 with fail
      obtain ⟨Z1, hZ1, hZe⟩ : ∃ Z1 : Array Value, Z1 = #[.int .i64 0, .int .u64 0, .int .i64 0, .int .u8 0, .int .u8 0, .int .u8 0, .int .u8 0, .int .u8 0, .int .u8 0, .int .u8 0, .int .u8 0, .int .u8 0, .int .u8 0, .int .u8 0, .int .u8 0, .int .u8 0, .int .u8 0, .int .u8 0, .int .u8 0, .int .u8 0, .int .u8 0, .int .u8 0, .int .u8 0, .int .u8 0, .int .u8 0, .int .u8 0, .int .u8 0, .int .u8 0, .int .u8 0, .int .u8 0, .int .u8 0, .int .u8 0, .int .u8 0, .int .u8 0, .int .u8 0, .int .u64 0, .int .u64 0, .int .u8 0, .int .u8 0, .int .u8 0, .int .u8 0, .int .u8 0, .int .u8 0, .int .u8 0, .int .u8 0, .int .u8 0, .int .u8 0, .int .u8 0, .int .u8 0, .int .u8 0, .int .u8 0, .int .u8 0, .int .u8 0] ∧ Z1 = zeroVt.cs.toArray := ⟨_, rfl, rfl⟩
      rw [← hZ1, hZe, hZq, hw3]
      clear hZ1 hZe Z1 hw3
      generalize hg : w.heap.size = g at *
      generalize hg3 : g + 1 + 1 = g2 at *
      go_upto_region 6 with (first | (go_at_call 86; refine D.mono ?_; rintro e w5 ⟨rfl, t5⟩) | (guard_target =~ wpList _ _ _ ({ dst := _, op := Op.store 72 _ _, .. } :: _) _ _; refine wpList_store_row rfl 72 (.tmp 13) (.tmp 32) rfl w5.heap.size SS rfl rfl 72 _ (heap_alloc_new w5 _) hiS (by rw [hlS]; rfl) hoS ?_))
      rw [World.setRow_alloc_new]
      have hs5 := t5.size
      have R6 := Row.new w5 SS 72
      have A6 := (r2.turn t5 (fun q => q)).alloc (.cells SS 72)
      have T6 := (t3.then_no t5).alloc (.cells SS 72)
      generalize w5.alloc (.cells SS 72) = w6 at *
      obtain ⟨f0, f1, -⟩ := HF.out w6 _ R6
      have hne : w5.heap.size ≠ g2 := by omega
      generalize w5.heap.size = q5 at *
      clear hs5 D hs3
      have S7 : Turn (fun k => k = g2) w6 w6.drew := (Turn.refl _ w6).drew
      have S8 : Turn (fun k => k = g2) w6 (w6.drew.setRow (g2) X.toArray) := S7.setRow _ _ (fun _ => rfl)
      have T8 : Turn no w (w6.drew.setRow (g2) X.toArray) := T6.drew.setRow _ _ (fun q => by omega)
      have hz' : (w6.drew.setRow (g2) X.toArray).heap[g2]? = some (.cells X.toArray 31 (0, 0)) := setRow_heap _ _ _ _ _ _ A6.drew
      have HR := shutX (fun W (t : Turn (fun k => k = g2) w6 W) => (fun j u hu => t.keep (f1 j u hu) (fun q => hne q) : W.rangeAt q5 1 X))
      clear f1
      refine wp_region_held_drew (S := fun W => Turn (fun k => k = g2) w6 W) (by kernel_rfl) (Turn.refl _ w6).drew (fun hHeld => ?_)
      refine' wpAnyH_take (i := 0) (v := .pointer (some ⟨q5, 0, none⟩)) rfl (by kernel_rfl) (by kernel_rfl) (by kernel_rfl) (fun _ _ _ h => h) (Or.inl ⟨by kernel_rfl, fun W hW => ?y9⟩) hHeld ?r9
      · go_simp
      refine' wpAnyH_take (i := 2) (v := .pointer (some ⟨q5, 1, none⟩)) rfl (by kernel_rfl) (by kernel_rfl) (by kernel_rfl) (fun _ _ _ h => h) (Or.inl ⟨by kernel_rfl, fun W hW => ?y10⟩) hHeld ?r10
      · go_simp
      refine' wpAnyH_take (i := 4) (v := .int .i64 er) rfl (by kernel_rfl) (by kernel_rfl) (by kernel_rfl) (fun _ _ _ h => h) (Or.inl ⟨by kernel_rfl, fun W hW => ?y11⟩) hHeld ?r11
      · go_simp
      refine' wpAnyH_take (i := 1) (v := .string ch) rfl (by kernel_rfl) (by kernel_rfl) (by kernel_rfl) (fun _ _ _ h => h) (Or.inl ⟨by kernel_rfl, fun W hW => ?y12⟩) hHeld ?r12
      · have hq := hW.keep f0 (fun q => hne q)
        go_simp
      refine' wpAnyH_take (i := 5) (v := .string ch) rfl (by kernel_rfl) (by kernel_rfl) (by kernel_rfl) (fun _ _ _ h => h) (Or.inl ⟨by kernel_rfl, fun W hW => ?y13⟩) hHeld ?r13
      · go_simp
      refine' wpAnyH_take (i := 3) (v := .agg X.toArray) rfl (by kernel_rfl) (by kernel_rfl) (by kernel_rfl) (fun _ _ _ h => h) (yieldsIf_load_mid (by kernel_rfl) 31 (.tmp 36) rfl q5 1 (by kernel_rfl) X _ (fun W h => HR.out W h) Try.underlying31 rfl hix) hHeld ?s5
      simp only [List.getElem_toArray, List.getElem_cons_succ, List.getElem_cons_zero, Act.put, List.setIfInBounds_toArray, List.set_cons_zero, List.set_cons_succ]
      refine wpAnyH_ready (rs := [6]) (by kernel_rfl) (by simp) ?_
      refine AllReadyH.cons rfl (fun K hK => ?_) AllReadyH.nil
      refine ite_mpr (by kernel_rfl) ?_
      refine wp_store_row 31 (.tmp 9) (.tmp 37) (by kernel_rfl) g2 X.toArray (by kernel_rfl) (by kernel_rfl) 31 Z A6.drew hix' (by rw [hzl, hsx]) hox ?_
      refine hK.out _ _ S8 (fun hHeld => ?_)
      clear hK
      refine' wpAnyH_take (i := 7) (v := .int .i64 er) rfl (by kernel_rfl) (by kernel_rfl) (by kernel_rfl) (fun _ _ _ h => h) (Or.inl ⟨by kernel_rfl, fun W hW => ?y14⟩) hHeld ?r14
      · go_simp
      refine wpAnyH_done (by kernel_rfl) ?_ _
      go_wp2_with fail
      refine bodyPost_ret (v := .tuple #[.string ch, .agg X.toArray, .int .i64 er]) ?_ rfl ⟨rfl, T8⟩
      exact results_tmp_cell_tmp (P := Try.prog) Try.results43 _ _ (g2) 31 X.toArray (0, 0) _ rfl hz' Try.underlying31 rfl hix'
set_option maxRecDepth 100000 in
set_option maxHeartbeats 2000000 in
theorem readVote17 (w : World) (v : Value) (bs : List UInt8) (hb : Bs w v bs) (hle : bs.length ≤ 140737488355328) :
    Calls Try.prog 17 #[v] w fun e w' => e = .returned (.tuple #[.string (anV bs).1, .agg (anV bs).2.1.cs.toArray, .int .i64 (anV bs).2.2]) ∧ Turn no w w' := by
  have hok := anV_ok bs
  have t1 : Turn no w (w.alloc (.cells zeroVt.cs.toArray 31)) := (Turn.refl no w).alloc _
  have r1 := Row.new w zeroVt.cs.toArray 31
  have D := decSt43 (w.alloc (.cells zeroVt.cs.toArray 31)) v bs (hb.turn_no t1) hle
  generalize anV bs = a at *
  obtain ⟨ch, x, er⟩ := a
  dsimp only at *
  have hlx : x.cs.length = 53 := Vt.len hok.1
  have hox := all_oneCell_toArray (Vt.one x)
  have hsx : x.cs.toArray.size = 53 := by simpa using hlx
  have hix : (Try.prog.info? 31).map (·.size) = some x.cs.toArray.size := by rw [hsx]; exact size29
  have hzl : zeroVt.cs.toArray.size = 53 := rfl
  generalize x.cs.toArray = X at *
  generalize hZq : zeroVt.cs.toArray = Z at *
  obtain ⟨va, vc, rfl⟩ := hb.slice
  clear hb hok
  generalize hw1 : w.alloc (.cells Z 31) = w1 at *
  go_enter Try.func17, Try.ntmps17
  go_upto_region 1 with fail
  obtain ⟨Z1, hZ1, hZe⟩ : ∃ Z1 : Array Value, Z1 = #[.int .i64 0, .int .u64 0, .int .i64 0, .int .u8 0, .int .u8 0, .int .u8 0, .int .u8 0, .int .u8 0, .int .u8 0, .int .u8 0, .int .u8 0, .int .u8 0, .int .u8 0, .int .u8 0, .int .u8 0, .int .u8 0, .int .u8 0, .int .u8 0, .int .u8 0, .int .u8 0, .int .u8 0, .int .u8 0, .int .u8 0, .int .u8 0, .int .u8 0, .int .u8 0, .int .u8 0, .int .u8 0, .int .u8 0, .int .u8 0, .int .u8 0, .int .u8 0, .int .u8 0, .int .u8 0, .int .u8 0, .int .u64 0, .int .u64 0, .int .u8 0, .int .u8 0, .int .u8 0, .int .u8 0, .int .u8 0, .int .u8 0, .int .u8 0, .int .u8 0, .int .u8 0, .int .u8 0, .int .u8 0, .int .u8 0, .int .u8 0, .int .u8 0, .int .u8 0, .int .u8 0] ∧ Z1 = zeroVt.cs.toArray := ⟨_, rfl, rfl⟩
  rw [← hZ1, hZe, hZq, hw1]
  clear hZ1 hZe Z1 hw1
  generalize hg : w.heap.size = g at *
  go_wp2_with (first | (go_at_call 43; refine D.mono ?_; rintro e w5 ⟨rfl, t5⟩) | (guard_target =~ wpList _ _ _ ({ dst := _, op := Op.store 31 _ _, .. } :: _) _ _; refine wpList_store_row rfl 31 (.tmp 3) (.tmp 8) rfl g X rfl rfl 31 Z (r1.turn t5 (fun q => q)) hix (by omega) hox ?_))
  have hz' : (w5.setRow g X).heap[g]? = some (.cells X 31 (0, 0)) := setRow_heap _ _ _ _ _ _ (r1.turn t5 (fun q => q))
  refine bodyPost_ret (v := .tuple #[.string ch, .agg X, .int .i64 er]) ?_ rfl ⟨rfl, (t1.then_no t5).setRow _ _ (fun q => by omega)⟩
  exact results_tmp_cell_tmp (P := Try.prog) Try.results17 _ _ g 31 X (0, 0) _ rfl hz' Try.underlying31 rfl hix
end Go.Proofs.Ytpfjllkmaogafaa

/- Proposals: decodeStatement, and what can be read of what is signed. -/
namespace Go.Proofs.Ytpfjllkmaogafaa
open Go.RowKit
set_option linter.unusedVariables false

/-- What is answered. -/
def anP (bs : List UInt8) : ByteArray × Po × Int := if 0 < bs.length ∧ bs.getD 0 0 ≠ 80 then (⟨#[]⟩, zeroPo, 40) else dcP bs
theorem zeroPo_fits : zeroPo.ok := ⟨rfl, rfl, by decide, by decide⟩
theorem dcP_ok (bs : List UInt8) : (dcP bs).2.1.ok := by
  have h : (rdSp bs 0 0).2.1.ok := rdP_ok bs _ _ (gT_le bs _ _ 16 (gB_le bs 0 0 (Nat.zero_le _)))
  unfold dcP
  dsimp only
  generalize (if rend bs (rdSp bs 0 0).2.2.1 (rdSp bs 0 0).2.2.2 = 0 then plainSp (rdSp bs 0 0).1 (rdSp bs 0 0).2.1 else rend bs (rdSp bs 0 0).2.2.1 (rdSp bs 0 0).2.2.2) = e2
  by_cases q : e2 = 0
  · rw [if_pos q]; exact h
  · rw [if_neg q]; exact zeroPo_fits
theorem anP_ok (bs : List UInt8) : (anP bs).2.1.ok := by
  unfold anP
  split
  · exact zeroPo_fits
  · exact dcP_ok bs
set_option maxRecDepth 100000 in
set_option maxHeartbeats 2000000 in
theorem decSt45 (w : World) (v : Value) (bs : List UInt8) (hb : Bs w v bs) (hle : bs.length ≤ 140737488355328) :
    Calls Try.prog 45 #[.int .u8 80, v, .func (.func 33) #[] #[], .func (.func 46) #[] #[]] w fun e w' => e = .returned (.tuple #[.string (anP bs).1, .agg (anP bs).2.1.cs.toArray, .int .i64 (anP bs).2.2]) ∧ Turn no w w' := by
  obtain ⟨w3, hw3⟩ : ∃ W, ((w.alloc (.cells #[.func (.func 33) #[] #[]] 78)).alloc (.cells #[.func (.func 46) #[] #[]] 91)).alloc (.cells zeroPo.cs.toArray 33) = W := ⟨_, rfl⟩
  have r0 : Row w3 w.heap.size #[.func (.func 33) #[] #[]] 78 := by rw [← hw3]; exact (((Row.new w _ 78).alloc _).alloc _)
  have r1 : Row w3 (w.heap.size + 1) #[.func (.func 46) #[] #[]] 91 := by rw [← hw3]; exact (Row.newAt _ _ 91 _ (by simp)).alloc _
  have r2 : Row w3 (w.heap.size + 1 + 1) zeroPo.cs.toArray 33 := by rw [← hw3]; exact Row.newAt _ _ 33 _ (by simp)
  have t3 : Turn no w w3 := by rw [← hw3]; exact (((Turn.refl no w).alloc _).alloc _).alloc _
  have hs3 : w.heap.size + 1 + 1 + 1 = w3.heap.size := by rw [← hw3]; simp
  have hb3 := hb.turn_no t3
  have D := dec96 w3 v bs hb3 hle (w.heap.size + 1) w.heap.size (r1.cell 0 _ rfl) (r0.cell 0 _ rfl)
  have hok := dcP_ok bs
  have hzl : zeroPo.cs.toArray.size = 52 := rfl
  have hzo := all_oneCell_toArray (Po.one zeroPo)
  have hzi : (Try.prog.info? 33).map (·.size) = some zeroPo.cs.toArray.size := by rw [hzl]; exact (by kernel_rfl)
  unfold anP
  by_cases hn : 0 < bs.length ∧ bs.getD 0 0 ≠ 80
  · rw [if_pos hn]
    dsimp only
    obtain ⟨b0, o0, c0, rfl, hle0, hcell⟩ := hb3.at hn.1
    have hc0 := hcell 0 hn.1
    have hq : (((bs.getD 0 0).toNat : Int) != 80) = true := by
      have h1 := hn.2
      have h2 : (bs.getD 0 0).toNat ≠ 80 := fun q => h1 (UInt8.toNat_inj.1 q)
      exact bne_iff_ne.2 (by omega)
    have hpos : (0 : Int) < (bs.length : Int) := by have := hn.1; omega
    rw [Nat.add_zero] at hc0
    clear D hb3 hcell hb hn hle
    generalize bs.getD 0 0 = y at *
    generalize bs.length = N at *
    generalize hZq : zeroPo.cs.toArray = Z at *
    go_enter Try.func45, Try.ntmps45
    go_upto_region 1 with fail
    obtain ⟨Z1, hZ1, hZe⟩ : ∃ Z1 : Array Value, Z1 = #[.int .u64 0, .int .i64 0, .int .i64 0, .int .u8 0, .int .u8 0, .int .u8 0, .int .u8 0, .int .u8 0, .int .u8 0, .int .u8 0, .int .u8 0, .int .u8 0, .int .u8 0, .int .u8 0, .int .u8 0, .int .u8 0, .int .u8 0, .int .u8 0, .int .u8 0, .int .u8 0, .int .u8 0, .int .u8 0, .int .u8 0, .int .u8 0, .int .u8 0, .int .u8 0, .int .u8 0, .int .u8 0, .int .u8 0, .int .u8 0, .int .u8 0, .int .u8 0, .int .u8 0, .int .u8 0, .int .u8 0, .int .u64 0, .int .u8 0, .int .u8 0, .int .u8 0, .int .u8 0, .int .u8 0, .int .u8 0, .int .u8 0, .int .u8 0, .int .u8 0, .int .u8 0, .int .u8 0, .int .u8 0, .int .u8 0, .int .u8 0, .int .u8 0, .int .u8 0] ∧ Z1 = zeroPo.cs.toArray := ⟨_, rfl, rfl⟩
    rw [← hZ1, hZe, hZq, hw3]
    clear hZ1 hZe Z1 hw3
    generalize hg : w.heap.size = g at *
    have hg2 : g < g + 1 + 1 := by omega
    generalize hg3 : g + 1 + 1 = g2 at *
    go_upto_region 3 with fail
    obtain ⟨Z1, hZ1, hZe⟩ : ∃ Z1 : Array Value, Z1 = #[.int .u64 0, .int .i64 0, .int .i64 0, .int .u8 0, .int .u8 0, .int .u8 0, .int .u8 0, .int .u8 0, .int .u8 0, .int .u8 0, .int .u8 0, .int .u8 0, .int .u8 0, .int .u8 0, .int .u8 0, .int .u8 0, .int .u8 0, .int .u8 0, .int .u8 0, .int .u8 0, .int .u8 0, .int .u8 0, .int .u8 0, .int .u8 0, .int .u8 0, .int .u8 0, .int .u8 0, .int .u8 0, .int .u8 0, .int .u8 0, .int .u8 0, .int .u8 0, .int .u8 0, .int .u8 0, .int .u8 0, .int .u64 0, .int .u8 0, .int .u8 0, .int .u8 0, .int .u8 0, .int .u8 0, .int .u8 0, .int .u8 0, .int .u8 0, .int .u8 0, .int .u8 0, .int .u8 0, .int .u8 0, .int .u8 0, .int .u8 0, .int .u8 0, .int .u8 0] ∧ Z1 = zeroPo.cs.toArray := ⟨_, rfl, rfl⟩
    rw [← hZ1, hZe, hZq]
    clear hZ1 hZe Z1
    have R4 := Row.new w3 Z 33
    have A4 := r2.alloc (.cells Z 33)
    have T4 := t3.alloc (.cells Z 33)
    rw [← hs3] at *
    generalize w3.alloc (.cells Z 33) = w4 at *
    have S5 : Turn (fun k => k = g2) w4 w4.drew := (Turn.refl _ w4).drew
    have S6 : Turn (fun k => k = g2) w4 (w4.drew.setRow (g2) Z) := S5.setRow _ _ (fun _ => rfl)
    have T6 : Turn no w (w4.drew.setRow (g2) Z) := T4.drew.setRow _ _ (fun q => by omega)
    have hz' : (w4.drew.setRow (g2) Z).heap[g2]? = some (.cells Z 33 (0, 0)) := setRow_heap _ _ _ _ _ _ A4.drew
    refine wp_region_held_drew (S := fun W => Turn (fun k => k = g2) w4 W) (by kernel_rfl) (Turn.refl _ w4).drew (fun hHeld => ?_)
    refine' wpAnyH_take (i := 1) (v := .string ⟨#[]⟩) rfl (by kernel_rfl) (by kernel_rfl) (by kernel_rfl) (fun _ _ _ h => h) (Or.inl ⟨by kernel_rfl, fun W hW => ?y1⟩) hHeld ?r1
    · go_simp
    refine wpAnyH_ready (rs := [0]) (by kernel_rfl) (by simp) ?_
    refine AllReadyH.cons rfl (fun K hK => ?_) AllReadyH.nil
    refine ite_mpr (by kernel_rfl) ?_
    refine wp_load_row 33 (.tmp 11) (by kernel_rfl) (g2 + 1) (by kernel_rfl) 33 Z (0, 0) _ R4.drew Try.underlying33 rfl hzi ?_
    refine hK.out _ _ S5 (fun hHeld => ?_)
    clear hK
    refine wpAnyH_ready (rs := [2]) (by kernel_rfl) (by simp) ?_
    refine AllReadyH.cons rfl (fun K hK => ?_) AllReadyH.nil
    refine ite_mpr (by kernel_rfl) ?_
    refine wp_store_row 33 (.tmp 9) (.tmp 25) (by kernel_rfl) g2 Z (by kernel_rfl) (by kernel_rfl) 33 Z A4.drew hzi rfl hzo ?_
    refine hK.out _ _ S6 (fun hHeld => ?_)
    clear hK
    refine' wpAnyH_take (i := 3) (v := .int .i64 40) rfl (by kernel_rfl) (by kernel_rfl) (by kernel_rfl) (fun _ _ _ h => h) (Or.inl ⟨by kernel_rfl, fun W hW => ?y2⟩) hHeld ?r2
    · go_simp
    refine wpAnyH_done (by kernel_rfl) ?_ _
    go_wp2_with fail
    refine bodyPost_ret (v := .tuple #[.string ⟨#[]⟩, .agg Z, .int .i64 40]) ?_ rfl ⟨rfl, T6⟩
    exact results_tmp_cell_tmp (P := Try.prog) Try.results45 _ _ (g2) 33 Z (0, 0) _ rfl hz' Try.underlying33 rfl hzi
  · rw [if_neg hn]
    generalize dcP bs = a at *
    obtain ⟨ch, x, er⟩ := a
    dsimp only at *
    have hlS : (stCp ch x).toArray.size = 53 := by simpa using stCp_len (ch := ch) hok
    have hoS := stCp_one ch x
    have hiS : (Try.prog.info? 77).map (·.size) = some (stCp ch x).toArray.size := by rw [hlS]; exact size77
    have hlx : x.cs.length = 52 := Po.len hok
    have hox := all_oneCell_toArray (Po.one x)
    have hix : (Try.prog.info? 33).map (·.size) = some x.cs.length := by rw [hlx]; exact (by kernel_rfl)
    have hsx : x.cs.toArray.size = 52 := by simpa using hlx
    have hix' : (Try.prog.info? 33).map (·.size) = some x.cs.toArray.size := by rw [hsx]; exact (by kernel_rfl)
    have HF := shutX (fun (W : World) (q : Nat) (r : Row W q (stCp ch x).toArray 77) => r.stp)
    generalize (stCp ch x).toArray = SS at *
    generalize hXq : x.cs = X at *
    generalize hZq : zeroPo.cs.toArray = Z at *
    clear hok
    by_cases h0 : 0 < bs.length
    · obtain ⟨b0, o0, c0, rfl, hle0, hcell⟩ := hb3.at h0
      have hc0 := hcell 0 h0
      have hlet : bs.getD 0 0 = 80 := Classical.byContradiction fun q => hn ⟨h0, q⟩
      rw [Nat.add_zero, hlet] at hc0
      have hc0 : w3.cell? ⟨b0, o0, none⟩ = some (.int .u8 80) := hc0
      have hpos : (0 : Int) < (bs.length : Int) := by omega
      clear hb3 hcell hb hn hlet h0 hle
      generalize bs.length = N at *
      go_enter Try.func45, Try.ntmps45
      go_upto_region 1 with fail
      obtain ⟨Z1, hZ1, hZe⟩ : ∃ Z1 : Array Value, Z1 = #[.int .u64 0, .int .i64 0, .int .i64 0, .int .u8 0, .int .u8 0, .int .u8 0, .int .u8 0, .int .u8 0, .int .u8 0, .int .u8 0, .int .u8 0, .int .u8 0, .int .u8 0, .int .u8 0, .int .u8 0, .int .u8 0, .int .u8 0, .int .u8 0, .int .u8 0, .int .u8 0, .int .u8 0, .int .u8 0, .int .u8 0, .int .u8 0, .int .u8 0, .int .u8 0, .int .u8 0, .int .u8 0, .int .u8 0, .int .u8 0, .int .u8 0, .int .u8 0, .int .u8 0, .int .u8 0, .int .u8 0, .int .u64 0, .int .u8 0, .int .u8 0, .int .u8 0, .int .u8 0, .int .u8 0, .int .u8 0, .int .u8 0, .int .u8 0, .int .u8 0, .int .u8 0, .int .u8 0, .int .u8 0, .int .u8 0, .int .u8 0, .int .u8 0, .int .u8 0] ∧ Z1 = zeroPo.cs.toArray := ⟨_, rfl, rfl⟩
      rw [← hZ1, hZe, hZq, hw3]
      clear hZ1 hZe Z1 hw3
      generalize hg : w.heap.size = g at *
      generalize hg3 : g + 1 + 1 = g2 at *
      go_upto_region 6 with (first | (go_at_call 96; refine D.mono ?_; rintro e w5 ⟨rfl, t5⟩) | (guard_target =~ wpList _ _ _ ({ dst := _, op := Op.store 77 _ _, .. } :: _) _ _; refine wpList_store_row rfl 77 (.tmp 13) (.tmp 32) rfl w5.heap.size SS rfl rfl 77 _ (heap_alloc_new w5 _) hiS (by rw [hlS]; rfl) hoS ?_))
      rw [World.setRow_alloc_new]
      have hs5 := t5.size
      have R6 := Row.new w5 SS 77
      have A6 := (r2.turn t5 (fun q => q)).alloc (.cells SS 77)
      have T6 := (t3.then_no t5).alloc (.cells SS 77)
      generalize w5.alloc (.cells SS 77) = w6 at *
      obtain ⟨f0, f1, -⟩ := HF.out w6 _ R6
      have hne : w5.heap.size ≠ g2 := by omega
      generalize w5.heap.size = q5 at *
      clear hs5 D hs3
      have S7 : Turn (fun k => k = g2) w6 w6.drew := (Turn.refl _ w6).drew
      have S8 : Turn (fun k => k = g2) w6 (w6.drew.setRow (g2) X.toArray) := S7.setRow _ _ (fun _ => rfl)
      have T8 : Turn no w (w6.drew.setRow (g2) X.toArray) := T6.drew.setRow _ _ (fun q => by omega)
      have hz' : (w6.drew.setRow (g2) X.toArray).heap[g2]? = some (.cells X.toArray 33 (0, 0)) := setRow_heap _ _ _ _ _ _ A6.drew
      have HR := shutX (fun W (t : Turn (fun k => k = g2) w6 W) => (fun j u hu => t.keep (f1 j u hu) (fun q => hne q) : W.rangeAt q5 1 X))
      clear f1
      refine wp_region_held_drew (S := fun W => Turn (fun k => k = g2) w6 W) (by kernel_rfl) (Turn.refl _ w6).drew (fun hHeld => ?_)
      refine' wpAnyH_take (i := 0) (v := .pointer (some ⟨q5, 0, none⟩)) rfl (by kernel_rfl) (by kernel_rfl) (by kernel_rfl) (fun _ _ _ h => h) (Or.inl ⟨by kernel_rfl, fun W hW => ?y3⟩) hHeld ?r3
      · go_simp
      refine' wpAnyH_take (i := 2) (v := .pointer (some ⟨q5, 1, none⟩)) rfl (by kernel_rfl) (by kernel_rfl) (by kernel_rfl) (fun _ _ _ h => h) (Or.inl ⟨by kernel_rfl, fun W hW => ?y4⟩) hHeld ?r4
      · go_simp
      refine' wpAnyH_take (i := 4) (v := .int .i64 er) rfl (by kernel_rfl) (by kernel_rfl) (by kernel_rfl) (fun _ _ _ h => h) (Or.inl ⟨by kernel_rfl, fun W hW => ?y5⟩) hHeld ?r5
      · go_simp
      refine' wpAnyH_take (i := 1) (v := .string ch) rfl (by kernel_rfl) (by kernel_rfl) (by kernel_rfl) (fun _ _ _ h => h) (Or.inl ⟨by kernel_rfl, fun W hW => ?y6⟩) hHeld ?r6
      · have hq := hW.keep f0 (fun q => hne q)
        go_simp
      refine' wpAnyH_take (i := 5) (v := .string ch) rfl (by kernel_rfl) (by kernel_rfl) (by kernel_rfl) (fun _ _ _ h => h) (Or.inl ⟨by kernel_rfl, fun W hW => ?y7⟩) hHeld ?r7
      · go_simp
      refine' wpAnyH_take (i := 3) (v := .agg X.toArray) rfl (by kernel_rfl) (by kernel_rfl) (by kernel_rfl) (fun _ _ _ h => h) (yieldsIf_load_mid (by kernel_rfl) 33 (.tmp 36) rfl q5 1 (by kernel_rfl) X _ (fun W h => HR.out W h) Try.underlying33 rfl hix) hHeld ?s4
      simp only [List.getElem_toArray, List.getElem_cons_succ, List.getElem_cons_zero, Act.put, List.setIfInBounds_toArray, List.set_cons_zero, List.set_cons_succ]
      refine wpAnyH_ready (rs := [6]) (by kernel_rfl) (by simp) ?_
      refine AllReadyH.cons rfl (fun K hK => ?_) AllReadyH.nil
      refine ite_mpr (by kernel_rfl) ?_
      refine wp_store_row 33 (.tmp 9) (.tmp 37) (by kernel_rfl) g2 X.toArray (by kernel_rfl) (by kernel_rfl) 33 Z A6.drew hix' (by rw [hzl, hsx]) hox ?_
      refine hK.out _ _ S8 (fun hHeld => ?_)
      clear hK
      refine' wpAnyH_take (i := 7) (v := .int .i64 er) rfl (by kernel_rfl) (by kernel_rfl) (by kernel_rfl) (fun _ _ _ h => h) (Or.inl ⟨by kernel_rfl, fun W hW => ?y8⟩) hHeld ?r8
      · go_simp
      refine wpAnyH_done (by kernel_rfl) ?_ _
      go_wp2_with fail
      refine bodyPost_ret (v := .tuple #[.string ch, .agg X.toArray, .int .i64 er]) ?_ rfl ⟨rfl, T8⟩
      exact results_tmp_cell_tmp (P := Try.prog) Try.results45 _ _ (g2) 33 X.toArray (0, 0) _ rfl hz' Try.underlying33 rfl hix'
    · have hE : bs = [] := List.eq_nil_of_length_eq_zero (by omega)
      obtain ⟨b0, c0, rfl⟩ := hb3.slice
      subst hE
      clear hb3 hb hn h0 hle
      dsimp only [List.length_nil] at *
      go_enter Try.func45, Try.ntmps45
      go_upto_region 1 with fail
      obtain ⟨Z1, hZ1, hZe⟩ : ∃ Z1 : Array Value, Z1 = #[.int .u64 0, .int .i64 0, .int .i64 0, .int .u8 0, .int .u8 0, .int .u8 0, .int .u8 0, .int .u8 0, .int .u8 0, .int .u8 0, .int .u8 0, .int .u8 0, .int .u8 0, .int .u8 0, .int .u8 0, .int .u8 0, .int .u8 0, .int .u8 0, .int .u8 0, .int .u8 0, .int .u8 0, .int .u8 0, .int .u8 0, .int .u8 0, .int .u8 0, .int .u8 0, .int .u8 0, .int .u8 0, .int .u8 0, .int .u8 0, .int .u8 0, .int .u8 0, .int .u8 0, .int .u8 0, .int .u8 0, .int .u64 0, .int .u8 0, .int .u8 0, .int .u8 0, .int .u8 0, .int .u8 0, .int .u8 0, .int .u8 0, .int .u8 0, .int .u8 0, .int .u8 0, .int .u8 0, .int .u8 0, .int .u8 0, .int .u8 0, .int .u8 0, .int .u8 0] ∧ Z1 = zeroPo.cs.toArray := ⟨_, rfl, rfl⟩
      rw [← hZ1, hZe, hZq, hw3]
      clear hZ1 hZe Z1 hw3
      generalize hg : w.heap.size = g at *
      generalize hg3 : g + 1 + 1 = g2 at *
      go_upto_region 6 with (first | (go_at_call 96; refine D.mono ?_; rintro e w5 ⟨rfl, t5⟩) | (guard_target =~ wpList _ _ _ ({ dst := _, op := Op.store 77 _ _, .. } :: _) _ _; refine wpList_store_row rfl 77 (.tmp 13) (.tmp 32) rfl w5.heap.size SS rfl rfl 77 _ (heap_alloc_new w5 _) hiS (by rw [hlS]; rfl) hoS ?_))
      rw [World.setRow_alloc_new]
      have hs5 := t5.size
      have R6 := Row.new w5 SS 77
      have A6 := (r2.turn t5 (fun q => q)).alloc (.cells SS 77)
      have T6 := (t3.then_no t5).alloc (.cells SS 77)
      generalize w5.alloc (.cells SS 77) = w6 at *
      obtain ⟨f0, f1, -⟩ := HF.out w6 _ R6
      have hne : w5.heap.size ≠ g2 := by omega
      generalize w5.heap.size = q5 at *
      clear hs5 D hs3
      have S7 : Turn (fun k => k = g2) w6 w6.drew := (Turn.refl _ w6).drew
      have S8 : Turn (fun k => k = g2) w6 (w6.drew.setRow (g2) X.toArray) := S7.setRow _ _ (fun _ => rfl)
      have T8 : Turn no w (w6.drew.setRow (g2) X.toArray) := T6.drew.setRow _ _ (fun q => by omega)
      have hz' : (w6.drew.setRow (g2) X.toArray).heap[g2]? = some (.cells X.toArray 33 (0, 0)) := setRow_heap _ _ _ _ _ _ A6.drew
      have HR := shutX (fun W (t : Turn (fun k => k = g2) w6 W) => (fun j u hu => t.keep (f1 j u hu) (fun q => hne q) : W.rangeAt q5 1 X))
      clear f1
      refine wp_region_held_drew (S := fun W => Turn (fun k => k = g2) w6 W) (by kernel_rfl) (Turn.refl _ w6).drew (fun hHeld => ?_)
      refine' wpAnyH_take (i := 0) (v := .pointer (some ⟨q5, 0, none⟩)) rfl (by kernel_rfl) (by kernel_rfl) (by kernel_rfl) (fun _ _ _ h => h) (Or.inl ⟨by kernel_rfl, fun W hW => ?y9⟩) hHeld ?r9
      · go_simp
      refine' wpAnyH_take (i := 2) (v := .pointer (some ⟨q5, 1, none⟩)) rfl (by kernel_rfl) (by kernel_rfl) (by kernel_rfl) (fun _ _ _ h => h) (Or.inl ⟨by kernel_rfl, fun W hW => ?y10⟩) hHeld ?r10
      · go_simp
      refine' wpAnyH_take (i := 4) (v := .int .i64 er) rfl (by kernel_rfl) (by kernel_rfl) (by kernel_rfl) (fun _ _ _ h => h) (Or.inl ⟨by kernel_rfl, fun W hW => ?y11⟩) hHeld ?r11
      · go_simp
      refine' wpAnyH_take (i := 1) (v := .string ch) rfl (by kernel_rfl) (by kernel_rfl) (by kernel_rfl) (fun _ _ _ h => h) (Or.inl ⟨by kernel_rfl, fun W hW => ?y12⟩) hHeld ?r12
      · have hq := hW.keep f0 (fun q => hne q)
        go_simp
      refine' wpAnyH_take (i := 5) (v := .string ch) rfl (by kernel_rfl) (by kernel_rfl) (by kernel_rfl) (fun _ _ _ h => h) (Or.inl ⟨by kernel_rfl, fun W hW => ?y13⟩) hHeld ?r13
      · go_simp
      refine' wpAnyH_take (i := 3) (v := .agg X.toArray) rfl (by kernel_rfl) (by kernel_rfl) (by kernel_rfl) (fun _ _ _ h => h) (yieldsIf_load_mid (by kernel_rfl) 33 (.tmp 36) rfl q5 1 (by kernel_rfl) X _ (fun W h => HR.out W h) Try.underlying33 rfl hix) hHeld ?s5
      simp only [List.getElem_toArray, List.getElem_cons_succ, List.getElem_cons_zero, Act.put, List.setIfInBounds_toArray, List.set_cons_zero, List.set_cons_succ]
      refine wpAnyH_ready (rs := [6]) (by kernel_rfl) (by simp) ?_
      refine AllReadyH.cons rfl (fun K hK => ?_) AllReadyH.nil
      refine ite_mpr (by kernel_rfl) ?_
      refine wp_store_row 33 (.tmp 9) (.tmp 37) (by kernel_rfl) g2 X.toArray (by kernel_rfl) (by kernel_rfl) 33 Z A6.drew hix' (by rw [hzl, hsx]) hox ?_
      refine hK.out _ _ S8 (fun hHeld => ?_)
      clear hK
      refine' wpAnyH_take (i := 7) (v := .int .i64 er) rfl (by kernel_rfl) (by kernel_rfl) (by kernel_rfl) (fun _ _ _ h => h) (Or.inl ⟨by kernel_rfl, fun W hW => ?y14⟩) hHeld ?r14
      · go_simp
      refine wpAnyH_done (by kernel_rfl) ?_ _
      go_wp2_with fail
      refine bodyPost_ret (v := .tuple #[.string ch, .agg X.toArray, .int .i64 er]) ?_ rfl ⟨rfl, T8⟩
      exact results_tmp_cell_tmp (P := Try.prog) Try.results45 _ _ (g2) 33 X.toArray (0, 0) _ rfl hz' Try.underlying33 rfl hix'
set_option maxRecDepth 100000 in
set_option maxHeartbeats 2000000 in
theorem readProp18 (w : World) (v : Value) (bs : List UInt8) (hb : Bs w v bs) (hle : bs.length ≤ 140737488355328) :
    Calls Try.prog 18 #[v] w fun e w' => e = .returned (.tuple #[.string (anP bs).1, .agg (anP bs).2.1.cs.toArray, .int .i64 (anP bs).2.2]) ∧ Turn no w w' := by
  have hok := anP_ok bs
  have t1 : Turn no w (w.alloc (.cells zeroPo.cs.toArray 33)) := (Turn.refl no w).alloc _
  have r1 := Row.new w zeroPo.cs.toArray 33
  have D := decSt45 (w.alloc (.cells zeroPo.cs.toArray 33)) v bs (hb.turn_no t1) hle
  generalize anP bs = a at *
  obtain ⟨ch, x, er⟩ := a
  dsimp only at *
  have hlx : x.cs.length = 52 := Po.len hok
  have hox := all_oneCell_toArray (Po.one x)
  have hsx : x.cs.toArray.size = 52 := by simpa using hlx
  have hix : (Try.prog.info? 33).map (·.size) = some x.cs.toArray.size := by rw [hsx]; exact (by kernel_rfl)
  have hzl : zeroPo.cs.toArray.size = 52 := rfl
  generalize x.cs.toArray = X at *
  generalize hZq : zeroPo.cs.toArray = Z at *
  obtain ⟨va, vc, rfl⟩ := hb.slice
  clear hb hok
  generalize hw1 : w.alloc (.cells Z 33) = w1 at *
  go_enter Try.func18, Try.ntmps18
  go_upto_region 1 with fail
  obtain ⟨Z1, hZ1, hZe⟩ : ∃ Z1 : Array Value, Z1 = #[.int .u64 0, .int .i64 0, .int .i64 0, .int .u8 0, .int .u8 0, .int .u8 0, .int .u8 0, .int .u8 0, .int .u8 0, .int .u8 0, .int .u8 0, .int .u8 0, .int .u8 0, .int .u8 0, .int .u8 0, .int .u8 0, .int .u8 0, .int .u8 0, .int .u8 0, .int .u8 0, .int .u8 0, .int .u8 0, .int .u8 0, .int .u8 0, .int .u8 0, .int .u8 0, .int .u8 0, .int .u8 0, .int .u8 0, .int .u8 0, .int .u8 0, .int .u8 0, .int .u8 0, .int .u8 0, .int .u8 0, .int .u64 0, .int .u8 0, .int .u8 0, .int .u8 0, .int .u8 0, .int .u8 0, .int .u8 0, .int .u8 0, .int .u8 0, .int .u8 0, .int .u8 0, .int .u8 0, .int .u8 0, .int .u8 0, .int .u8 0, .int .u8 0, .int .u8 0] ∧ Z1 = zeroPo.cs.toArray := ⟨_, rfl, rfl⟩
  rw [← hZ1, hZe, hZq, hw1]
  clear hZ1 hZe Z1 hw1
  generalize hg : w.heap.size = g at *
  go_wp2_with (first | (go_at_call 45; refine D.mono ?_; rintro e w5 ⟨rfl, t5⟩) | (guard_target =~ wpList _ _ _ ({ dst := _, op := Op.store 33 _ _, .. } :: _) _ _; refine wpList_store_row rfl 33 (.tmp 3) (.tmp 8) rfl g X rfl rfl 33 Z (r1.turn t5 (fun q => q)) hix (by omega) hox ?_))
  have hz' : (w5.setRow g X).heap[g]? = some (.cells X 33 (0, 0)) := setRow_heap _ _ _ _ _ _ (r1.turn t5 (fun q => q))
  refine bodyPost_ret (v := .tuple #[.string ch, .agg X, .int .i64 er]) ?_ rfl ⟨rfl, (t1.then_no t5).setRow _ _ (fun q => by omega)⟩
  exact results_tmp_cell_tmp (P := Try.prog) Try.results18 _ _ g 33 X (0, 0) _ rfl hz' Try.underlying33 rfl hix
end Go.Proofs.Ytpfjllkmaogafaa

/- Statements: the document's reading of what is signed. -/
namespace Go.Proofs.Ytpfjllkmaogafaa
open Go.RowKit
set_option linter.unusedVariables false
theorem Own.some_off {w : World} {v : Value} {xs : List UInt8} (h : Own w 5 v (xs.map bv)) {g : Nat} (hg : v.ownBlock = some g) : ∃ g cap, v = .slice (some ⟨g, 0, none⟩) xs.length cap := by
  rcases h.shape with ⟨rfl, _⟩ | ⟨g', cap, cur, rfl, _⟩
  · cases hg
  · exact ⟨g', cap, by simp⟩
set_option maxRecDepth 100000 in
set_option maxHeartbeats 2000000 in
theorem new98 (w : World) (vb : Value) (B : List UInt8) (hb : Bs w vb B) (hle : B.length ≤ 140737488355328) :
    Calls Try.prog 98 #[vb] w fun e w' => ∃ q v, e = .returned (.pointer (some ⟨q, 0, none⟩)) ∧ Rq w' q v B 0 0 ∧ (∀ k, wfoot q v k → w.heap.size ≤ k) ∧ Turn no w w' := by
  have hsr := fun W (t : Turn no w W) => (hb.turn_no t).src (P := Try.prog) Try.underlying36
  obtain ⟨a, cap, rfl⟩ := hb.slice
  obtain ⟨N, hN⟩ : ∃ N, B.length = N := ⟨_, rfl⟩
  rw [hN] at hsr hle ⊢
  have Hsr := shutX hsr
  clear hsr hN hb
  go_enter Try.func98, Try.ntmps98
  go_wp2_with (at_builtin; refine wpList_append_src rfl (.tmp 3) (.tmp 4) rfl Try.underlying36 Try.info5 rfl _ [] rfl (own_empty w 5) _ N (B.map bv) rfl (Hsr.out _ ((Turn.refl _ _).alloc _)) ?b ?m ?_)
  case b => simp; omega
  case m => simp [maxLen]; omega
  intro v1 w1 o1 g1 _
  have F1 := (fr_empty w).append (ys := B) (Turn.refl _ _) o1 g1
  have hg : ∃ g, v1.ownBlock = some g := by
    rcases g1.blk with r | ⟨g, r, _⟩
    · exact ⟨_, r⟩
    · exact ⟨g, r⟩
  obtain ⟨g, hg⟩ := hg
  have nn := Own.some_off F1.own hg
  rw [List.nil_append] at nn F1
  obtain ⟨ad, ln, cp, rfl⟩ := o1.form
  have HF := shutX (And.intro F1 nn)
  clear o1 g1 F1 nn hg
  go_wp2_with fail
  go_ret
  obtain ⟨F1, nn⟩ := HF.out
  refine ⟨w1.heap.size, _, rfl, ⟨heap_alloc_new w1 _, F1.own.turn_no ((Turn.refl no w1).alloc _), Nat.zero_le _, nn⟩, ?_, F1.turn.alloc _⟩
  intro k hk
  rcases hk with rfl | hk
  · exact F1.turn.size
  · exact F1.new k hk

theorem gB_nil : gB [] 0 0 = (0, 0, 10) := rfl
theorem gB_pos (bs : List UInt8) (h : 0 < bs.length) : gB bs 0 0 = ((bs.getD 0 0).toNat, 1, 0) := by
  unfold gB rfix
  rw [if_pos rfl, if_neg (by omega)]
  simp [lsum]
theorem gT_sz (bs : List UInt8) (i : Nat) (e : Int) : (gT bs i e 16).1.length ≤ 16 := by
  unfold gT rbytes
  split
  · split
    · simp
    · split
      · simp
      · split
        · simp
        · split
          · simp
          · simp
            omega
  · simp
theorem built31_n : Try.prog.built 31 [] = some zeroVt.cs.toArray := by kernel_rfl
theorem built33_n : Try.prog.built 33 [] = some zeroPo.cs.toArray := by kernel_rfl
set_option maxRecDepth 100000 in
set_option maxHeartbeats 2000000 in
theorem opened_nil (w : World) (v : Value) (L : UInt8) (hb : Bs w v []) : Calls Try.prog 47 #[v, .int .u8 L.toNat] w fun e w' => ∃ q, e = .returned (.tuple #[.pointer (some ⟨q, 0, none⟩), .string ⟨#[]⟩, .int .i64 10]) ∧ Turn no w w' := by
  have N := new98 w v [] hb (by simp)
  have B := fun W q u (h : Rq W q u [] 0 0) => byte99 h (by simp)
  rw [gB_nil] at B
  obtain ⟨va, vc, rfl⟩ := hb.slice
  clear hb
  go_enter Try.func47, Try.ntmps47
  go_upto_region 2 with (go_at_call 98; refine N.mono ?_; rintro e w1 ⟨q, u, rfl, R1, n1, t1⟩)
  have hq := n1 q (.inl rfl)
  have D := B w1 q u R1
  clear B N R1 n1
  go_upto_region 3 with (go_at_call 99; refine D.mono ?_; rintro e w2 ⟨rfl, R2, t2⟩)
  have c2 := R2.c2
  have T2 : Turn no w w2 := (t1.of_no.trans t2 (S := fun k => k = q) (fun _ _ r => r)).mono (fun i hi r => by omega)
  clear D R2 t1 t2 hq
  go_upto_region 4 with fail
  go_quiet (fail)
  go_wp2_with fail
  go_ret3
  exact ⟨_, rfl, T2.drewN _⟩
set_option maxRecDepth 100000 in
set_option maxHeartbeats 2000000 in
theorem opened_bad (w : World) (v : Value) (bs : List UInt8) (L : UInt8) (hb : Bs w v bs) (hle : bs.length ≤ 140737488355328) (h0 : 0 < bs.length) (hne : bs.getD 0 0 ≠ L) : Calls Try.prog 47 #[v, .int .u8 L.toNat] w fun e w' => ∃ q, e = .returned (.tuple #[.pointer (some ⟨q, 0, none⟩), .string ⟨#[]⟩, .int .i64 40]) ∧ Turn no w w' := by
  have N := new98 w v bs hb hle
  have B := fun W q u (h : Rq W q u bs 0 0) => byte99 h hle
  rw [gB_pos bs h0] at B
  have hq : ((((bs.getD 0 0).toNat : Nat) : Int) != ((L.toNat : Nat) : Int)) = true := bne_iff_ne.2 (fun q => hne (UInt8.toNat_inj.1 (by omega)))
  generalize (bs.getD 0 0).toNat = y at *
  generalize L.toNat = z at *
  obtain ⟨va, vc, rfl⟩ := hb.slice
  clear hb hne h0
  generalize bs.length = M at *
  go_enter Try.func47, Try.ntmps47
  go_upto_region 2 with (go_at_call 98; refine N.mono ?_; rintro e w1 ⟨q, u, rfl, R1, n1, t1⟩)
  have hqw := n1 q (.inl rfl)
  have D := B w1 q u R1
  clear B N R1 n1
  go_upto_region 3 with (go_at_call 99; refine D.mono ?_; rintro e w2 ⟨rfl, R2, t2⟩)
  have c2 := R2.c2
  have T2 : Turn no w w2 := (t1.of_no.trans t2 (S := fun k => k = q) (fun _ _ r => r)).mono (fun i hi r => by omega)
  clear D R2 t1 t2 hqw
  go_wp2_with fail
  go_ret3
  exact ⟨_, rfl, T2⟩
set_option maxRecDepth 100000 in
set_option maxHeartbeats 2000000 in
theorem opened_ok (w : World) (v : Value) (bs : List UInt8) (L : UInt8) (hb : Bs w v bs) (hle : bs.length ≤ 140737488355328) (h0 : 0 < bs.length) (hne : bs.getD 0 0 = L) : Calls Try.prog 47 #[v, .int .u8 L.toNat] w fun e w' => ∃ q u, e = .returned (.tuple #[.pointer (some ⟨q, 0, none⟩), .string ⟨(gT bs 1 0 16).1.toArray⟩, .int .i64 0]) ∧ Rq w' q u bs (gT bs 1 0 16).2.1 (gT bs 1 0 16).2.2 ∧ (∀ k, wfoot q u k → w.heap.size ≤ k) ∧ Turn no w w' := by
  have N := new98 w v bs hb hle
  have B := fun W q u (h : Rq W q u bs 0 0) => byte99 h hle
  have C := fun W q u (h : Rq W q u bs 1 0) => text100 h 16 (by omega) hle
  rw [gB_pos bs h0, hne] at B
  generalize gT bs 1 0 16 = t at *
  obtain ⟨t1, t2, t3⟩ := t
  dsimp only at *
  generalize (⟨t1.toArray⟩ : ByteArray) = ch at *
  generalize L.toNat = z at *
  obtain ⟨va, vc, rfl⟩ := hb.slice
  clear hb hne h0
  have HR := hle
  go_enter Try.func47, Try.ntmps47
  go_upto_region 2 with (go_at_call 98; refine N.mono ?_; rintro e w1 ⟨q, u, rfl, R1, n1, s1⟩)
  have hqw := n1 q (.inl rfl)
  have D := B w1 q u R1
  clear B N R1
  go_upto_region 3 with (go_at_call 99; refine D.mono ?_; rintro e w2 ⟨rfl, R2, s2⟩)
  have c2 := R2.c2
  have T2 : Turn no w w2 := (s1.of_no.trans s2 (S := fun k => k = q) (fun _ _ r => r)).mono (fun i hi r => by omega)
  have D2 := C w2 q u R2
  clear D R2 s1 s2 C
  go_wp2_with (go_at_call 100; refine D2.mono ?_; rintro e w3 ⟨rfl, R3, s3⟩)
  go_ret3
  exact ⟨q, u, rfl, R3, n1, (T2.of_no.trans s3 (S := fun k => k = q) (fun _ _ r => r)).mono (fun i hi r => by omega)⟩
end Go.Proofs.Ytpfjllkmaogafaa
