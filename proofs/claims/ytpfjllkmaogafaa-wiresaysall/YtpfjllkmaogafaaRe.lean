/- R14, R15, R16, R17 in one. -/
import Derived.Test.YtpfjllkmaogafaaRd
import Derived.Laws.Strings
import Derived.Test.YtpfjllkmaogafaaN1
/- Votes: the document's reading of what is signed. -/
namespace Go.Proofs.Ytpfjllkmaogafaa
open Go.RowKit
set_option linter.unusedVariables false

theorem ba_self : ((⟨#[]⟩ : ByteArray) == (⟨#[]⟩ : ByteArray)) = true := by kernel_rfl
theorem ba_ne (ch : ByteArray) (h : ¬ ch = (⟨#[]⟩ : ByteArray)) : (ch == (⟨#[]⟩ : ByteArray)) = false := by
  obtain ⟨d⟩ := ch
  have hd : d ≠ #[] := fun q => h (by rw [q])
  show (d == #[]) = false
  exact beq_false_of_ne hd
theorem ba_isEmpty (ch : ByteArray) (h : ¬ ch = (⟨#[]⟩ : ByteArray)) : ch.toList.isEmpty = false := by
  rw [ByteArray.toList_eq]
  obtain ⟨d⟩ := ch
  have hd : d ≠ #[] := fun q => h (by rw [q])
  simpa using hd
theorem cB_of (ch : ByteArray) (h : ch.size ≤ 16) : cB ch = !(ch == (⟨#[]⟩ : ByteArray)) := by
  unfold cB
  by_cases h0 : ch = (⟨#[]⟩ : ByteArray)
  · subst h0; rfl
  · have hs : 1 ≤ ch.size := by
      rcases Nat.eq_zero_or_pos ch.size with q | q
      · exfalso
        apply h0
        obtain ⟨d⟩ := ch
        have : d = #[] := Array.eq_empty_of_size_eq_zero q
        rw [this]
      · exact q
    rw [decide_eq_true (by omega), decide_eq_true (by omega), ba_ne ch h0]
    rfl

theorem anV_nil : anV [] = (⟨#[]⟩, zeroVt, 10) := by kernel_rfl
theorem anV_bad (bs : List UInt8) (h0 : 0 < bs.length) (hne : bs.getD 0 0 ≠ 86) : anV bs = (⟨#[]⟩, zeroVt, 40) := by
  unfold anV
  rw [if_pos ⟨h0, hne⟩]
theorem anV_good (bs : List UInt8) (h0 : 0 < bs.length) (hne : bs.getD 0 0 = 86) (ch : ByteArray) (j : Nat) (e : Int) (hch : ⟨(gT bs 1 0 16).1.toArray⟩ = ch) (hj : (gT bs 1 0 16).2 = (j, e)) (x : Vt) (j1 : Nat) (e1 : Int) (hx : rdV bs j e = (x, j1, e1)) :
    anV bs = if (if rend bs j1 e1 = 0 then (if (ch == (⟨#[]⟩ : ByteArray)) = true then 41 else plainE x) else rend bs j1 e1) = 0 then (ch, x, 0) else (⟨#[]⟩, zeroVt, if rend bs j1 e1 = 0 then (if (ch == (⟨#[]⟩ : ByteArray)) = true then 41 else plainE x) else rend bs j1 e1) := by
  have hs : ch.size ≤ 16 := by
    rw [← hch]
    have := gT_sz bs 1 0
    show (gT bs 1 0 16).1.toArray.size ≤ 16
    simpa using this
  unfold anV
  rw [if_neg (fun q => q.2 hne)]
  unfold dcV rdSv
  rw [gB_pos bs h0]
  dsimp only
  rw [hch, hj]
  dsimp only
  rw [hx]
  dsimp only
  unfold plainSv
  rw [cB_of ch hs]
  cases hq : (ch == (⟨#[]⟩ : ByteArray)) <;> simp
set_option maxRecDepth 100000 in
set_option maxHeartbeats 4000000 in
theorem readVote19 (w : World) (v : Value) (bs : List UInt8) (hb : Bs w v bs) (hle : bs.length ≤ 140737488355328) :
    Calls Try.prog 19 #[v] w fun e w' => e = .returned (.tuple #[.string (anV bs).1, .agg (anV bs).2.1.cs.toArray, .int .i64 (anV bs).2.2]) ∧ Turn no w w' := by
  have t1 : Turn no w (w.alloc (.cells zeroVt.cs.toArray 31)) := (Turn.refl no w).alloc _
  have r1 := Row.new w zeroVt.cs.toArray 31
  have hb1 := hb.turn_no t1
  have hs1 : (w.alloc (.cells zeroVt.cs.toArray 31)).heap.size = w.heap.size + 1 := by simp
  have hzl : zeroVt.cs.toArray.size = 53 := rfl
  have hzo := all_oneCell_toArray (Vt.one zeroVt)
  have hzi : (Try.prog.info? 31).map (·.size) = some zeroVt.cs.toArray.size := by rw [hzl]; exact size29
  have hbz := built31_n
  by_cases h0 : 0 < bs.length
  · by_cases hne : bs.getD 0 0 = 86
    · have D := opened_ok _ v bs 86 hb1 hle h0 hne
      have hgT := gT_le bs 1 0 16 (by omega)
      obtain ⟨ch, hch⟩ : ∃ ch : ByteArray, ⟨(gT bs 1 0 16).1.toArray⟩ = ch := ⟨_, rfl⟩
      obtain ⟨j, e, hj⟩ : ∃ j e, (gT bs 1 0 16).2 = (j, e) := ⟨_, _, rfl⟩
      rw [hj] at hgT
      obtain ⟨x, j1, e1, hx⟩ : ∃ x j1 e1, rdV bs j e = (x, j1, e1) := ⟨_, _, _, rfl⟩
      have hok : x.fits := by have := rdV_fits bs j e hgT; rw [hx] at this; exact this
      rw [anV_good bs h0 hne ch j e hch hj x j1 e1 hx]
      rw [hch, hj] at D
      dsimp only at D
      have C48 := fun W q u (h : Rq W q u bs j e) => vote48 h hle
      rw [hx] at C48
      dsimp only at C48
      have C49 := fun W q u (h : Rq W q u bs j1 e1) => end68 e1 h hle
      have C39 := fun W => plain12 W x hok.1
      have hlx : x.cs.length = 53 := Vt.len hok.1
      have hox := all_oneCell_toArray (Vt.one x)
      have hsx : x.cs.toArray.size = 53 := by simpa using hlx
      have hix : (Try.prog.info? 31).map (·.size) = some x.cs.toArray.size := by rw [hsx]; exact size29
      generalize rend bs j1 e1 = er at *
      generalize plainE x = pe at *
      obtain ⟨va, vc, rfl⟩ := hb.slice
      generalize hMl : bs.length = M at *
      clear hb hb1 hch hj hx hok h0 hne hle hgT hlx hMl
      obtain ⟨X, hX⟩ : ∃ X, x.cs.toArray = X := ⟨_, rfl⟩
      rw [hX] at hox hsx hix C48 C39
      generalize hZq : zeroVt.cs.toArray = Z at *
      generalize hw1 : w.alloc (.cells Z 31) = w1 at *
      by_cases he : er = 0
      · subst he
        simp only [if_true]
        by_cases hc : ch = (⟨#[]⟩ : ByteArray)
        · subst hc
          simp only [ba_self, if_true, if_neg (show ¬ (41 : Int) = 0 by decide)]
          go_enter Try.func19, Try.ntmps19
          go_upto_region 1 with fail
          obtain ⟨Z1, hZ1, hZe⟩ : ∃ Z1 : Array Value, Z1 = #[.int .i64 0, .int .u64 0, .int .i64 0, .int .u8 0, .int .u8 0, .int .u8 0, .int .u8 0, .int .u8 0, .int .u8 0, .int .u8 0, .int .u8 0, .int .u8 0, .int .u8 0, .int .u8 0, .int .u8 0, .int .u8 0, .int .u8 0, .int .u8 0, .int .u8 0, .int .u8 0, .int .u8 0, .int .u8 0, .int .u8 0, .int .u8 0, .int .u8 0, .int .u8 0, .int .u8 0, .int .u8 0, .int .u8 0, .int .u8 0, .int .u8 0, .int .u8 0, .int .u8 0, .int .u8 0, .int .u8 0, .int .u64 0, .int .u64 0, .int .u8 0, .int .u8 0, .int .u8 0, .int .u8 0, .int .u8 0, .int .u8 0, .int .u8 0, .int .u8 0, .int .u8 0, .int .u8 0, .int .u8 0, .int .u8 0, .int .u8 0, .int .u8 0, .int .u8 0, .int .u8 0] ∧ Z1 = zeroVt.cs.toArray := ⟨_, rfl, rfl⟩
          rw [← hZ1, hZe, hZq, hw1]
          clear hZ1 hZe Z1 hw1
          generalize hg : w.heap.size = g at *
          go_upto_region 2 with (go_at_call 47; refine D.mono ?_; rintro e' w2 ⟨q, u, rfl, R2, n2, t2⟩)
          have hqg := n2 q (.inl rfl)
          have D2 := C48 w2 q u R2
          clear C48 D R2
          go_upto_region 5 with (first | (go_at_call 48; refine D2.mono ?_; rintro e' w3 ⟨rfl, R3, t3⟩) | (guard_target =~ wpList _ _ _ ({ dst := _, op := Op.store 31 _ _, .. } :: _) _ _; refine wpList_store_row rfl 31 (.tmp 8) (.tmp 20) rfl w3.heap.size X rfl rfl 31 _ (heap_alloc_new w3 _) hix (by rw [hsx]; rfl) hox ?_))
          rw [World.setRow_alloc_new]
          have T3 : Turn no w w3 := ((t1.then_no t2).of_no.trans t3 (S := fun k => k = q) (fun _ _ r => r)).mono (fun i hi r => by omega)
          have A3 := (r1.turn t2 (fun q => q)).turn t3 (fun r => by omega)
          have hA3 := A3.lt
          have V4 := Row.new w3 X 31
          have A4 := A3.alloc (.cells X 31)
          have T4 := T3.alloc (.cells X 31)
          have R4 := R3.turn_no ((Turn.refl no w3).alloc (.cells X 31))
          have hne : w3.heap.size ≠ g := by omega
          generalize w3.alloc (.cells X 31) = w4 at *
          generalize w3.heap.size = gv at *
          have D3 := C49 w4 q u R4
          clear C49 D2 R3 R4 t2 t3 A3 t1 T3 r1 n2
          go_upto_region 6 with (go_at_call 49; refine D3.mono ?_; rintro e' w5 ⟨rfl, n5, rfl⟩)
          clear D3
          have V5 := V4.drewN n5
          have A5 := A4.drewN n5
          have T5 := T4.drewN n5
          generalize w4.drewN n5 = w5 at *
          clear V4 A4 T4
          go_wp2_with (first  | (guard_target =~ wpList _ _ _ ({ dst := _, op := Op.build 31 _, .. } :: _) _ _; refine wpList_build_l rfl 31 [] rfl [] rfl Z hbz ?_) | (guard_target =~ wpList _ _ _ ({ dst := _, op := Op.store 31 _ _, .. } :: _) _ _; refine wpList_store_row rfl 31 (.tmp 3) (.tmp 35) rfl g Z rfl rfl 31 Z A5 hzi rfl hzo ?_))
          have A6 := A5
          have T6 := T5
          have hz' : (w5.setRow g Z).heap[g]? = some (.cells Z 31 (0, 0)) := setRow_heap _ _ _ _ _ _ A6
          refine bodyPost_ret (v := .tuple #[.string ⟨#[]⟩, .agg Z, .int .i64 41]) ?_ rfl ⟨by simp only [hZq], T6.setRow _ _ (fun q => by omega)⟩
          exact results_tmp_cell_tmp (P := Try.prog) Try.results19 _ _ g 31 Z (0, 0) _ rfl hz' Try.underlying31 rfl hzi
        · have hcb : (ch == (⟨#[]⟩ : ByteArray)) = false := ba_ne ch hc
          have hce := ba_isEmpty ch hc
          simp only [hcb, if_false, Bool.false_eq_true]
          by_cases hp : pe = 0
          · subst hp
            simp only [if_true]
            go_enter Try.func19, Try.ntmps19
            go_upto_region 1 with fail
            obtain ⟨Z1, hZ1, hZe⟩ : ∃ Z1 : Array Value, Z1 = #[.int .i64 0, .int .u64 0, .int .i64 0, .int .u8 0, .int .u8 0, .int .u8 0, .int .u8 0, .int .u8 0, .int .u8 0, .int .u8 0, .int .u8 0, .int .u8 0, .int .u8 0, .int .u8 0, .int .u8 0, .int .u8 0, .int .u8 0, .int .u8 0, .int .u8 0, .int .u8 0, .int .u8 0, .int .u8 0, .int .u8 0, .int .u8 0, .int .u8 0, .int .u8 0, .int .u8 0, .int .u8 0, .int .u8 0, .int .u8 0, .int .u8 0, .int .u8 0, .int .u8 0, .int .u8 0, .int .u8 0, .int .u64 0, .int .u64 0, .int .u8 0, .int .u8 0, .int .u8 0, .int .u8 0, .int .u8 0, .int .u8 0, .int .u8 0, .int .u8 0, .int .u8 0, .int .u8 0, .int .u8 0, .int .u8 0, .int .u8 0, .int .u8 0, .int .u8 0, .int .u8 0] ∧ Z1 = zeroVt.cs.toArray := ⟨_, rfl, rfl⟩
            rw [← hZ1, hZe, hZq, hw1]
            clear hZ1 hZe Z1 hw1
            generalize hg : w.heap.size = g at *
            go_upto_region 2 with (go_at_call 47; refine D.mono ?_; rintro e' w2 ⟨q, u, rfl, R2, n2, t2⟩)
            have hqg := n2 q (.inl rfl)
            have D2 := C48 w2 q u R2
            clear C48 D R2
            go_upto_region 5 with (first | (go_at_call 48; refine D2.mono ?_; rintro e' w3 ⟨rfl, R3, t3⟩) | (guard_target =~ wpList _ _ _ ({ dst := _, op := Op.store 31 _ _, .. } :: _) _ _; refine wpList_store_row rfl 31 (.tmp 8) (.tmp 20) rfl w3.heap.size X rfl rfl 31 _ (heap_alloc_new w3 _) hix (by rw [hsx]; rfl) hox ?_))
            rw [World.setRow_alloc_new]
            have T3 : Turn no w w3 := ((t1.then_no t2).of_no.trans t3 (S := fun k => k = q) (fun _ _ r => r)).mono (fun i hi r => by omega)
            have A3 := (r1.turn t2 (fun q => q)).turn t3 (fun r => by omega)
            have hA3 := A3.lt
            have V4 := Row.new w3 X 31
            have A4 := A3.alloc (.cells X 31)
            have T4 := T3.alloc (.cells X 31)
            have R4 := R3.turn_no ((Turn.refl no w3).alloc (.cells X 31))
            have hne : w3.heap.size ≠ g := by omega
            generalize w3.alloc (.cells X 31) = w4 at *
            generalize w3.heap.size = gv at *
            have D3 := C49 w4 q u R4
            clear C49 D2 R3 R4 t2 t3 A3 t1 T3 r1 n2
            go_upto_region 6 with (go_at_call 49; refine D3.mono ?_; rintro e' w5 ⟨rfl, n5, rfl⟩)
            clear D3
            have V5 := V4.drewN n5
            have A5 := A4.drewN n5
            have T5 := T4.drewN n5
            generalize w4.drewN n5 = w5 at *
            clear V4 A4 T4
            go_upto_region 12 with (first | (guard_target =~ wpList _ _ _ ({ dst := _, op := Op.load 31 _, .. } :: _) _ _; refine wpList_load_row rfl 31 (.tmp 8) rfl gv rfl 31 X (0, 0) _ V5 Try.underlying31 rfl hix ?_) | (go_at_call 39; refine (C39 _).mono ?_; rintro e' w6 ⟨rfl, t6⟩))
            have V6 := V5.turn t6 (fun q => q)
            have A6 := A5.turn t6 (fun q => q)
            have T6 := T5.then_no t6
            clear V5 A5 T5 t6
            have S7 : Turn (fun k => k = g) w6 w6.drew := (Turn.refl _ w6).drew
            have S8 : Turn (fun k => k = g) w6 (w6.drew.setRow g X) := S7.setRow _ _ (fun _ => rfl)
            have T8 : Turn no w (w6.drew.setRow g X) := T6.drew.setRow _ _ (fun q => by omega)
            have hz' : (w6.drew.setRow g X).heap[g]? = some (.cells X 31 (0, 0)) := setRow_heap _ _ _ _ _ _ A6.drew
            have HR := shutX (fun W (t : Turn (fun k => k = g) w6 W) => Row.range (cs := X.toList) (by simpa using V6.turn t (fun q => hne q)))
            have hixl : (Try.prog.info? 31).map (·.size) = some X.toList.length := by rw [Array.length_toList]; exact hix
            refine wp_region_held_drew (S := fun W => Turn (fun k => k = g) w6 W) (by kernel_rfl) (Turn.refl _ w6).drew (fun hHeld => ?_)
            refine' wpAnyH_take (i := 0) (v := .string ch) rfl (by kernel_rfl) (by kernel_rfl) (by kernel_rfl) (fun _ _ _ h => h) (Or.inl ⟨by kernel_rfl, fun W hW => ?y1⟩) hHeld ?r1
            · go_simp
            refine' wpAnyH_take (i := 1) (v := .agg X.toList.toArray) rfl (by kernel_rfl) (by kernel_rfl) (by kernel_rfl) (fun _ _ _ h => h) (yieldsIf_load_mid (by kernel_rfl) 31 (.tmp 8) rfl gv 0 (by kernel_rfl) X.toList _ (fun W h => HR.out W h) Try.underlying31 rfl hixl) hHeld ?s4
            refine' wpAnyH_take (i := 2) (v := .string ch) rfl (by kernel_rfl) (by kernel_rfl) (by kernel_rfl) (fun _ _ _ h => h) (Or.inl ⟨by kernel_rfl, fun W hW => ?y2⟩) hHeld ?r2
            · go_simp
            simp only [List.getElem_toArray, List.getElem_cons_succ, List.getElem_cons_zero, Act.put, List.setIfInBounds_toArray, List.set_cons_zero, List.set_cons_succ, Array.toArray_toList]
            refine wpAnyH_ready (rs := [3]) (by kernel_rfl) (by simp) ?_
            refine AllReadyH.cons rfl (fun K hK => ?_) AllReadyH.nil
            refine ite_mpr (by kernel_rfl) ?_
            refine wp_store_row 31 (.tmp 3) (.tmp 38) (by kernel_rfl) g X (by kernel_rfl) (by kernel_rfl) 31 Z A6.drew hix (by rw [hzl, hsx]) hox ?_
            refine hK.out _ _ S8 (fun hHeld => ?_)
            clear hK
            refine' wpAnyH_take (i := 4) (v := .int .i64 0) rfl (by kernel_rfl) (by kernel_rfl) (by kernel_rfl) (fun _ _ _ h => h) (Or.inl ⟨by kernel_rfl, fun W hW => ?y3⟩) hHeld ?r3
            · go_simp
            refine wpAnyH_done (by kernel_rfl) ?_ _
            go_wp2_with fail
            refine bodyPost_ret (v := .tuple #[.string ch, .agg X, .int .i64 0]) ?_ rfl ⟨by simp only [hX], T8⟩
            exact results_tmp_cell_tmp (P := Try.prog) Try.results19 _ _ g 31 X (0, 0) _ rfl hz' Try.underlying31 rfl hix
          · simp only [if_neg hp]
            have hp1 : (pe != 0) = true := by simpa using hp
            go_enter Try.func19, Try.ntmps19
            go_upto_region 1 with fail
            obtain ⟨Z1, hZ1, hZe⟩ : ∃ Z1 : Array Value, Z1 = #[.int .i64 0, .int .u64 0, .int .i64 0, .int .u8 0, .int .u8 0, .int .u8 0, .int .u8 0, .int .u8 0, .int .u8 0, .int .u8 0, .int .u8 0, .int .u8 0, .int .u8 0, .int .u8 0, .int .u8 0, .int .u8 0, .int .u8 0, .int .u8 0, .int .u8 0, .int .u8 0, .int .u8 0, .int .u8 0, .int .u8 0, .int .u8 0, .int .u8 0, .int .u8 0, .int .u8 0, .int .u8 0, .int .u8 0, .int .u8 0, .int .u8 0, .int .u8 0, .int .u8 0, .int .u8 0, .int .u8 0, .int .u64 0, .int .u64 0, .int .u8 0, .int .u8 0, .int .u8 0, .int .u8 0, .int .u8 0, .int .u8 0, .int .u8 0, .int .u8 0, .int .u8 0, .int .u8 0, .int .u8 0, .int .u8 0, .int .u8 0, .int .u8 0, .int .u8 0, .int .u8 0] ∧ Z1 = zeroVt.cs.toArray := ⟨_, rfl, rfl⟩
            rw [← hZ1, hZe, hZq, hw1]
            clear hZ1 hZe Z1 hw1
            generalize hg : w.heap.size = g at *
            go_upto_region 2 with (go_at_call 47; refine D.mono ?_; rintro e' w2 ⟨q, u, rfl, R2, n2, t2⟩)
            have hqg := n2 q (.inl rfl)
            have D2 := C48 w2 q u R2
            clear C48 D R2
            go_upto_region 5 with (first | (go_at_call 48; refine D2.mono ?_; rintro e' w3 ⟨rfl, R3, t3⟩) | (guard_target =~ wpList _ _ _ ({ dst := _, op := Op.store 31 _ _, .. } :: _) _ _; refine wpList_store_row rfl 31 (.tmp 8) (.tmp 20) rfl w3.heap.size X rfl rfl 31 _ (heap_alloc_new w3 _) hix (by rw [hsx]; rfl) hox ?_))
            rw [World.setRow_alloc_new]
            have T3 : Turn no w w3 := ((t1.then_no t2).of_no.trans t3 (S := fun k => k = q) (fun _ _ r => r)).mono (fun i hi r => by omega)
            have A3 := (r1.turn t2 (fun q => q)).turn t3 (fun r => by omega)
            have hA3 := A3.lt
            have V4 := Row.new w3 X 31
            have A4 := A3.alloc (.cells X 31)
            have T4 := T3.alloc (.cells X 31)
            have R4 := R3.turn_no ((Turn.refl no w3).alloc (.cells X 31))
            have hne : w3.heap.size ≠ g := by omega
            generalize w3.alloc (.cells X 31) = w4 at *
            generalize w3.heap.size = gv at *
            have D3 := C49 w4 q u R4
            clear C49 D2 R3 R4 t2 t3 A3 t1 T3 r1 n2
            go_upto_region 6 with (go_at_call 49; refine D3.mono ?_; rintro e' w5 ⟨rfl, n5, rfl⟩)
            clear D3
            have V5 := V4.drewN n5
            have A5 := A4.drewN n5
            have T5 := T4.drewN n5
            generalize w4.drewN n5 = w5 at *
            clear V4 A4 T4
            go_wp2_with (first | (guard_target =~ wpList _ _ _ ({ dst := _, op := Op.load 31 _, .. } :: _) _ _; refine wpList_load_row rfl 31 (.tmp 8) rfl gv rfl 31 X (0, 0) _ V5 Try.underlying31 rfl hix ?_) | (go_at_call 39; refine (C39 _).mono ?_; rintro e' w6 ⟨rfl, t6⟩) | (guard_target =~ wpList _ _ _ ({ dst := _, op := Op.build 31 _, .. } :: _) _ _; refine wpList_build_l rfl 31 [] rfl [] rfl Z hbz ?_) | (guard_target =~ wpList _ _ _ ({ dst := _, op := Op.store 31 _ _, .. } :: _) _ _; refine wpList_store_row rfl 31 (.tmp 3) (.tmp 35) rfl g Z rfl rfl 31 Z (A5.turn t6 (fun q => q)) hzi rfl hzo ?_))
            have A6 := A5.turn t6 (fun q => q)
            have T6 := T5.then_no t6
            have hz' : (w6.setRow g Z).heap[g]? = some (.cells Z 31 (0, 0)) := setRow_heap _ _ _ _ _ _ A6
            refine bodyPost_ret (v := .tuple #[.string ⟨#[]⟩, .agg Z, .int .i64 pe]) ?_ rfl ⟨by simp only [hZq], T6.setRow _ _ (fun q => by omega)⟩
            exact results_tmp_cell_tmp (P := Try.prog) Try.results19 _ _ g 31 Z (0, 0) _ rfl hz' Try.underlying31 rfl hzi
      · simp only [if_neg he]
        have he1 : (er == 0) = false := by simpa using he
        have he2 : (er != 0) = true := by simpa using he
        go_enter Try.func19, Try.ntmps19
        go_upto_region 1 with fail
        obtain ⟨Z1, hZ1, hZe⟩ : ∃ Z1 : Array Value, Z1 = #[.int .i64 0, .int .u64 0, .int .i64 0, .int .u8 0, .int .u8 0, .int .u8 0, .int .u8 0, .int .u8 0, .int .u8 0, .int .u8 0, .int .u8 0, .int .u8 0, .int .u8 0, .int .u8 0, .int .u8 0, .int .u8 0, .int .u8 0, .int .u8 0, .int .u8 0, .int .u8 0, .int .u8 0, .int .u8 0, .int .u8 0, .int .u8 0, .int .u8 0, .int .u8 0, .int .u8 0, .int .u8 0, .int .u8 0, .int .u8 0, .int .u8 0, .int .u8 0, .int .u8 0, .int .u8 0, .int .u8 0, .int .u64 0, .int .u64 0, .int .u8 0, .int .u8 0, .int .u8 0, .int .u8 0, .int .u8 0, .int .u8 0, .int .u8 0, .int .u8 0, .int .u8 0, .int .u8 0, .int .u8 0, .int .u8 0, .int .u8 0, .int .u8 0, .int .u8 0, .int .u8 0] ∧ Z1 = zeroVt.cs.toArray := ⟨_, rfl, rfl⟩
        rw [← hZ1, hZe, hZq, hw1]
        clear hZ1 hZe Z1 hw1
        generalize hg : w.heap.size = g at *
        go_upto_region 2 with (go_at_call 47; refine D.mono ?_; rintro e' w2 ⟨q, u, rfl, R2, n2, t2⟩)
        have hqg := n2 q (.inl rfl)
        have D2 := C48 w2 q u R2
        clear C48 D R2
        go_upto_region 5 with (first | (go_at_call 48; refine D2.mono ?_; rintro e' w3 ⟨rfl, R3, t3⟩) | (guard_target =~ wpList _ _ _ ({ dst := _, op := Op.store 31 _ _, .. } :: _) _ _; refine wpList_store_row rfl 31 (.tmp 8) (.tmp 20) rfl w3.heap.size X rfl rfl 31 _ (heap_alloc_new w3 _) hix (by rw [hsx]; rfl) hox ?_))
        rw [World.setRow_alloc_new]
        have T3 : Turn no w w3 := ((t1.then_no t2).of_no.trans t3 (S := fun k => k = q) (fun _ _ r => r)).mono (fun i hi r => by omega)
        have A3 := (r1.turn t2 (fun q => q)).turn t3 (fun r => by omega)
        have hA3 := A3.lt
        have V4 := Row.new w3 X 31
        have A4 := A3.alloc (.cells X 31)
        have T4 := T3.alloc (.cells X 31)
        have R4 := R3.turn_no ((Turn.refl no w3).alloc (.cells X 31))
        have hne : w3.heap.size ≠ g := by omega
        generalize w3.alloc (.cells X 31) = w4 at *
        generalize w3.heap.size = gv at *
        have D3 := C49 w4 q u R4
        clear C49 D2 R3 R4 t2 t3 A3 t1 T3 r1 n2
        go_upto_region 6 with (go_at_call 49; refine D3.mono ?_; rintro e' w5 ⟨rfl, n5, rfl⟩)
        clear D3
        have V5 := V4.drewN n5
        have A5 := A4.drewN n5
        have T5 := T4.drewN n5
        generalize w4.drewN n5 = w5 at *
        clear V4 A4 T4
        go_wp2_with (first  | (guard_target =~ wpList _ _ _ ({ dst := _, op := Op.build 31 _, .. } :: _) _ _; refine wpList_build_l rfl 31 [] rfl [] rfl Z hbz ?_) | (guard_target =~ wpList _ _ _ ({ dst := _, op := Op.store 31 _ _, .. } :: _) _ _; refine wpList_store_row rfl 31 (.tmp 3) (.tmp 35) rfl g Z rfl rfl 31 Z A5 hzi rfl hzo ?_))
        have A6 := A5
        have T6 := T5
        have hz' : (w5.setRow g Z).heap[g]? = some (.cells Z 31 (0, 0)) := setRow_heap _ _ _ _ _ _ A6
        refine bodyPost_ret (v := .tuple #[.string ⟨#[]⟩, .agg Z, .int .i64 er]) ?_ rfl ⟨by simp only [hZq], T6.setRow _ _ (fun q => by omega)⟩
        exact results_tmp_cell_tmp (P := Try.prog) Try.results19 _ _ g 31 Z (0, 0) _ rfl hz' Try.underlying31 rfl hzi
    · have D := opened_bad _ v bs 86 hb1 hle h0 hne
      rw [anV_bad bs h0 hne]
      dsimp only
      obtain ⟨va, vc, rfl⟩ := hb.slice
      clear hb hb1 h0 hne hle
      generalize bs.length = M at *
      generalize hZq : zeroVt.cs.toArray = Z at *
      generalize hw1 : w.alloc (.cells Z 31) = w1 at *
      go_enter Try.func19, Try.ntmps19
      go_upto_region 1 with fail
      obtain ⟨Z1, hZ1, hZe⟩ : ∃ Z1 : Array Value, Z1 = #[.int .i64 0, .int .u64 0, .int .i64 0, .int .u8 0, .int .u8 0, .int .u8 0, .int .u8 0, .int .u8 0, .int .u8 0, .int .u8 0, .int .u8 0, .int .u8 0, .int .u8 0, .int .u8 0, .int .u8 0, .int .u8 0, .int .u8 0, .int .u8 0, .int .u8 0, .int .u8 0, .int .u8 0, .int .u8 0, .int .u8 0, .int .u8 0, .int .u8 0, .int .u8 0, .int .u8 0, .int .u8 0, .int .u8 0, .int .u8 0, .int .u8 0, .int .u8 0, .int .u8 0, .int .u8 0, .int .u8 0, .int .u64 0, .int .u64 0, .int .u8 0, .int .u8 0, .int .u8 0, .int .u8 0, .int .u8 0, .int .u8 0, .int .u8 0, .int .u8 0, .int .u8 0, .int .u8 0, .int .u8 0, .int .u8 0, .int .u8 0, .int .u8 0, .int .u8 0, .int .u8 0] ∧ Z1 = zeroVt.cs.toArray := ⟨_, rfl, rfl⟩
      rw [← hZ1, hZe, hZq, hw1]
      clear hZ1 hZe Z1 hw1
      generalize hg : w.heap.size = g at *
      go_wp2_with (first | (go_at_call 47; refine D.mono ?_; rintro e w2 ⟨q, rfl, t2⟩) | (guard_target =~ wpList _ _ _ ({ dst := _, op := Op.build 31 _, .. } :: _) _ _; refine wpList_build_l rfl 31 [] rfl [] rfl Z hbz ?_) | (guard_target =~ wpList _ _ _ ({ dst := _, op := Op.store 31 _ _, .. } :: _) _ _; refine wpList_store_row rfl 31 (.tmp 3) (.tmp 17) rfl g Z rfl rfl 31 Z (r1.turn t2 (fun q => q)) hzi rfl hzo ?_))
      have hz' : (w2.setRow g Z).heap[g]? = some (.cells Z 31 (0, 0)) := setRow_heap _ _ _ _ _ _ (r1.turn t2 (fun q => q))
      refine bodyPost_ret (v := .tuple #[.string ⟨#[]⟩, .agg Z, .int .i64 40]) ?_ rfl ⟨rfl, (t1.then_no t2).setRow _ _ (fun q => by omega)⟩
      exact results_tmp_cell_tmp (P := Try.prog) Try.results19 _ _ g 31 Z (0, 0) _ rfl hz' Try.underlying31 rfl hzi
  · have hE : bs = [] := List.eq_nil_of_length_eq_zero (by omega)
    subst hE
    have D := opened_nil _ v 86 hb1
    rw [anV_nil]
    dsimp only
    obtain ⟨va, vc, rfl⟩ := hb.slice
    clear hb hb1 h0 hle
    dsimp only [List.length_nil] at *
    generalize hZq : zeroVt.cs.toArray = Z at *
    generalize hw1 : w.alloc (.cells Z 31) = w1 at *
    go_enter Try.func19, Try.ntmps19
    go_upto_region 1 with fail
    obtain ⟨Z1, hZ1, hZe⟩ : ∃ Z1 : Array Value, Z1 = #[.int .i64 0, .int .u64 0, .int .i64 0, .int .u8 0, .int .u8 0, .int .u8 0, .int .u8 0, .int .u8 0, .int .u8 0, .int .u8 0, .int .u8 0, .int .u8 0, .int .u8 0, .int .u8 0, .int .u8 0, .int .u8 0, .int .u8 0, .int .u8 0, .int .u8 0, .int .u8 0, .int .u8 0, .int .u8 0, .int .u8 0, .int .u8 0, .int .u8 0, .int .u8 0, .int .u8 0, .int .u8 0, .int .u8 0, .int .u8 0, .int .u8 0, .int .u8 0, .int .u8 0, .int .u8 0, .int .u8 0, .int .u64 0, .int .u64 0, .int .u8 0, .int .u8 0, .int .u8 0, .int .u8 0, .int .u8 0, .int .u8 0, .int .u8 0, .int .u8 0, .int .u8 0, .int .u8 0, .int .u8 0, .int .u8 0, .int .u8 0, .int .u8 0, .int .u8 0, .int .u8 0] ∧ Z1 = zeroVt.cs.toArray := ⟨_, rfl, rfl⟩
    rw [← hZ1, hZe, hZq, hw1]
    clear hZ1 hZe Z1 hw1
    generalize hg : w.heap.size = g at *
    go_wp2_with (first | (go_at_call 47; refine D.mono ?_; rintro e w2 ⟨q, rfl, t2⟩) | (guard_target =~ wpList _ _ _ ({ dst := _, op := Op.build 31 _, .. } :: _) _ _; refine wpList_build_l rfl 31 [] rfl [] rfl Z hbz ?_) | (guard_target =~ wpList _ _ _ ({ dst := _, op := Op.store 31 _ _, .. } :: _) _ _; refine wpList_store_row rfl 31 (.tmp 3) (.tmp 17) rfl g Z rfl rfl 31 Z (r1.turn t2 (fun q => q)) hzi rfl hzo ?_))
    have hz' : (w2.setRow g Z).heap[g]? = some (.cells Z 31 (0, 0)) := setRow_heap _ _ _ _ _ _ (r1.turn t2 (fun q => q))
    refine bodyPost_ret (v := .tuple #[.string ⟨#[]⟩, .agg Z, .int .i64 10]) ?_ rfl ⟨rfl, (t1.then_no t2).setRow _ _ (fun q => by omega)⟩
    exact results_tmp_cell_tmp (P := Try.prog) Try.results19 _ _ g 31 Z (0, 0) _ rfl hz' Try.underlying31 rfl hzi
end Go.Proofs.Ytpfjllkmaogafaa

/- Proposals: the document's reading of what is signed. -/
namespace Go.Proofs.Ytpfjllkmaogafaa
open Go.RowKit
set_option linter.unusedVariables false

theorem anP_nil : anP [] = (⟨#[]⟩, zeroPo, 10) := by kernel_rfl
theorem anP_bad (bs : List UInt8) (h0 : 0 < bs.length) (hne : bs.getD 0 0 ≠ 80) : anP bs = (⟨#[]⟩, zeroPo, 40) := by
  unfold anP
  rw [if_pos ⟨h0, hne⟩]
theorem anP_good (bs : List UInt8) (h0 : 0 < bs.length) (hne : bs.getD 0 0 = 80) (ch : ByteArray) (j : Nat) (e : Int) (hch : ⟨(gT bs 1 0 16).1.toArray⟩ = ch) (hj : (gT bs 1 0 16).2 = (j, e)) (x : Po) (j1 : Nat) (e1 : Int) (hx : rdP bs j e = (x, j1, e1)) :
    anP bs = if (if rend bs j1 e1 = 0 then (if (ch == (⟨#[]⟩ : ByteArray)) = true then 41 else plainP x) else rend bs j1 e1) = 0 then (ch, x, 0) else (⟨#[]⟩, zeroPo, if rend bs j1 e1 = 0 then (if (ch == (⟨#[]⟩ : ByteArray)) = true then 41 else plainP x) else rend bs j1 e1) := by
  have hs : ch.size ≤ 16 := by
    rw [← hch]
    have := gT_sz bs 1 0
    show (gT bs 1 0 16).1.toArray.size ≤ 16
    simpa using this
  unfold anP
  rw [if_neg (fun q => q.2 hne)]
  unfold dcP rdSp
  rw [gB_pos bs h0]
  dsimp only
  rw [hch, hj]
  dsimp only
  rw [hx]
  dsimp only
  unfold plainSp
  rw [cB_of ch hs]
  cases hq : (ch == (⟨#[]⟩ : ByteArray)) <;> simp
set_option maxRecDepth 100000 in
set_option maxHeartbeats 4000000 in
theorem readProp20 (w : World) (v : Value) (bs : List UInt8) (hb : Bs w v bs) (hle : bs.length ≤ 140737488355328) :
    Calls Try.prog 20 #[v] w fun e w' => e = .returned (.tuple #[.string (anP bs).1, .agg (anP bs).2.1.cs.toArray, .int .i64 (anP bs).2.2]) ∧ Turn no w w' := by
  have t1 : Turn no w (w.alloc (.cells zeroPo.cs.toArray 33)) := (Turn.refl no w).alloc _
  have r1 := Row.new w zeroPo.cs.toArray 33
  have hb1 := hb.turn_no t1
  have hs1 : (w.alloc (.cells zeroPo.cs.toArray 33)).heap.size = w.heap.size + 1 := by simp
  have hzl : zeroPo.cs.toArray.size = 52 := rfl
  have hzo := all_oneCell_toArray (Po.one zeroPo)
  have hzi : (Try.prog.info? 33).map (·.size) = some zeroPo.cs.toArray.size := by rw [hzl]; exact (by kernel_rfl)
  have hbz := built33_n
  by_cases h0 : 0 < bs.length
  · by_cases hne : bs.getD 0 0 = 80
    · have D := opened_ok _ v bs 80 hb1 hle h0 hne
      have hgT := gT_le bs 1 0 16 (by omega)
      obtain ⟨ch, hch⟩ : ∃ ch : ByteArray, ⟨(gT bs 1 0 16).1.toArray⟩ = ch := ⟨_, rfl⟩
      obtain ⟨j, e, hj⟩ : ∃ j e, (gT bs 1 0 16).2 = (j, e) := ⟨_, _, rfl⟩
      rw [hj] at hgT
      obtain ⟨x, j1, e1, hx⟩ : ∃ x j1 e1, rdP bs j e = (x, j1, e1) := ⟨_, _, _, rfl⟩
      have hok : x.ok := by have := rdP_ok bs j e hgT; rw [hx] at this; exact this
      rw [anP_good bs h0 hne ch j e hch hj x j1 e1 hx]
      rw [hch, hj] at D
      dsimp only at D
      have C48 := fun W q u (h : Rq W q u bs j e) => prop50 h hle
      rw [hx] at C48
      dsimp only at C48
      have C49 := fun W q u (h : Rq W q u bs j1 e1) => end68 e1 h hle
      have C39 := fun W => plain41 W x hok
      have hlx : x.cs.length = 52 := Po.len hok
      have hox := all_oneCell_toArray (Po.one x)
      have hsx : x.cs.toArray.size = 52 := by simpa using hlx
      have hix : (Try.prog.info? 33).map (·.size) = some x.cs.toArray.size := by rw [hsx]; exact (by kernel_rfl)
      generalize rend bs j1 e1 = er at *
      generalize plainP x = pe at *
      obtain ⟨va, vc, rfl⟩ := hb.slice
      generalize hMl : bs.length = M at *
      clear hb hb1 hch hj hx hok h0 hne hle hgT hlx hMl
      obtain ⟨X, hX⟩ : ∃ X, x.cs.toArray = X := ⟨_, rfl⟩
      rw [hX] at hox hsx hix C48 C39
      generalize hZq : zeroPo.cs.toArray = Z at *
      generalize hw1 : w.alloc (.cells Z 33) = w1 at *
      by_cases he : er = 0
      · subst he
        simp only [if_true]
        by_cases hc : ch = (⟨#[]⟩ : ByteArray)
        · subst hc
          simp only [ba_self, if_true, if_neg (show ¬ (41 : Int) = 0 by decide)]
          go_enter Try.func20, Try.ntmps20
          go_upto_region 1 with fail
          obtain ⟨Z1, hZ1, hZe⟩ : ∃ Z1 : Array Value, Z1 = #[.int .u64 0, .int .i64 0, .int .i64 0, .int .u8 0, .int .u8 0, .int .u8 0, .int .u8 0, .int .u8 0, .int .u8 0, .int .u8 0, .int .u8 0, .int .u8 0, .int .u8 0, .int .u8 0, .int .u8 0, .int .u8 0, .int .u8 0, .int .u8 0, .int .u8 0, .int .u8 0, .int .u8 0, .int .u8 0, .int .u8 0, .int .u8 0, .int .u8 0, .int .u8 0, .int .u8 0, .int .u8 0, .int .u8 0, .int .u8 0, .int .u8 0, .int .u8 0, .int .u8 0, .int .u8 0, .int .u8 0, .int .u64 0, .int .u8 0, .int .u8 0, .int .u8 0, .int .u8 0, .int .u8 0, .int .u8 0, .int .u8 0, .int .u8 0, .int .u8 0, .int .u8 0, .int .u8 0, .int .u8 0, .int .u8 0, .int .u8 0, .int .u8 0, .int .u8 0] ∧ Z1 = zeroPo.cs.toArray := ⟨_, rfl, rfl⟩
          rw [← hZ1, hZe, hZq, hw1]
          clear hZ1 hZe Z1 hw1
          generalize hg : w.heap.size = g at *
          go_upto_region 2 with (go_at_call 47; refine D.mono ?_; rintro e' w2 ⟨q, u, rfl, R2, n2, t2⟩)
          have hqg := n2 q (.inl rfl)
          have D2 := C48 w2 q u R2
          clear C48 D R2
          go_upto_region 5 with (first | (go_at_call 50; refine D2.mono ?_; rintro e' w3 ⟨rfl, R3, t3⟩) | (guard_target =~ wpList _ _ _ ({ dst := _, op := Op.store 33 _ _, .. } :: _) _ _; refine wpList_store_row rfl 33 (.tmp 8) (.tmp 20) rfl w3.heap.size X rfl rfl 33 _ (heap_alloc_new w3 _) hix (by rw [hsx]; rfl) hox ?_))
          rw [World.setRow_alloc_new]
          have T3 : Turn no w w3 := ((t1.then_no t2).of_no.trans t3 (S := fun k => k = q) (fun _ _ r => r)).mono (fun i hi r => by omega)
          have A3 := (r1.turn t2 (fun q => q)).turn t3 (fun r => by omega)
          have hA3 := A3.lt
          have V4 := Row.new w3 X 33
          have A4 := A3.alloc (.cells X 33)
          have T4 := T3.alloc (.cells X 33)
          have R4 := R3.turn_no ((Turn.refl no w3).alloc (.cells X 33))
          have hne : w3.heap.size ≠ g := by omega
          generalize w3.alloc (.cells X 33) = w4 at *
          generalize w3.heap.size = gv at *
          have D3 := C49 w4 q u R4
          clear C49 D2 R3 R4 t2 t3 A3 t1 T3 r1 n2
          go_upto_region 6 with (go_at_call 49; refine D3.mono ?_; rintro e' w5 ⟨rfl, n5, rfl⟩)
          clear D3
          have V5 := V4.drewN n5
          have A5 := A4.drewN n5
          have T5 := T4.drewN n5
          generalize w4.drewN n5 = w5 at *
          clear V4 A4 T4
          go_wp2_with (first  | (guard_target =~ wpList _ _ _ ({ dst := _, op := Op.build 33 _, .. } :: _) _ _; refine wpList_build_l rfl 33 [] rfl [] rfl Z hbz ?_) | (guard_target =~ wpList _ _ _ ({ dst := _, op := Op.store 33 _ _, .. } :: _) _ _; refine wpList_store_row rfl 33 (.tmp 3) (.tmp 35) rfl g Z rfl rfl 33 Z A5 hzi rfl hzo ?_))
          have A6 := A5
          have T6 := T5
          have hz' : (w5.setRow g Z).heap[g]? = some (.cells Z 33 (0, 0)) := setRow_heap _ _ _ _ _ _ A6
          refine bodyPost_ret (v := .tuple #[.string ⟨#[]⟩, .agg Z, .int .i64 41]) ?_ rfl ⟨by simp only [hZq], T6.setRow _ _ (fun q => by omega)⟩
          exact results_tmp_cell_tmp (P := Try.prog) Try.results20 _ _ g 33 Z (0, 0) _ rfl hz' Try.underlying33 rfl hzi
        · have hcb : (ch == (⟨#[]⟩ : ByteArray)) = false := ba_ne ch hc
          have hce := ba_isEmpty ch hc
          simp only [hcb, if_false, Bool.false_eq_true]
          by_cases hp : pe = 0
          · subst hp
            simp only [if_true]
            go_enter Try.func20, Try.ntmps20
            go_upto_region 1 with fail
            obtain ⟨Z1, hZ1, hZe⟩ : ∃ Z1 : Array Value, Z1 = #[.int .u64 0, .int .i64 0, .int .i64 0, .int .u8 0, .int .u8 0, .int .u8 0, .int .u8 0, .int .u8 0, .int .u8 0, .int .u8 0, .int .u8 0, .int .u8 0, .int .u8 0, .int .u8 0, .int .u8 0, .int .u8 0, .int .u8 0, .int .u8 0, .int .u8 0, .int .u8 0, .int .u8 0, .int .u8 0, .int .u8 0, .int .u8 0, .int .u8 0, .int .u8 0, .int .u8 0, .int .u8 0, .int .u8 0, .int .u8 0, .int .u8 0, .int .u8 0, .int .u8 0, .int .u8 0, .int .u8 0, .int .u64 0, .int .u8 0, .int .u8 0, .int .u8 0, .int .u8 0, .int .u8 0, .int .u8 0, .int .u8 0, .int .u8 0, .int .u8 0, .int .u8 0, .int .u8 0, .int .u8 0, .int .u8 0, .int .u8 0, .int .u8 0, .int .u8 0] ∧ Z1 = zeroPo.cs.toArray := ⟨_, rfl, rfl⟩
            rw [← hZ1, hZe, hZq, hw1]
            clear hZ1 hZe Z1 hw1
            generalize hg : w.heap.size = g at *
            go_upto_region 2 with (go_at_call 47; refine D.mono ?_; rintro e' w2 ⟨q, u, rfl, R2, n2, t2⟩)
            have hqg := n2 q (.inl rfl)
            have D2 := C48 w2 q u R2
            clear C48 D R2
            go_upto_region 5 with (first | (go_at_call 50; refine D2.mono ?_; rintro e' w3 ⟨rfl, R3, t3⟩) | (guard_target =~ wpList _ _ _ ({ dst := _, op := Op.store 33 _ _, .. } :: _) _ _; refine wpList_store_row rfl 33 (.tmp 8) (.tmp 20) rfl w3.heap.size X rfl rfl 33 _ (heap_alloc_new w3 _) hix (by rw [hsx]; rfl) hox ?_))
            rw [World.setRow_alloc_new]
            have T3 : Turn no w w3 := ((t1.then_no t2).of_no.trans t3 (S := fun k => k = q) (fun _ _ r => r)).mono (fun i hi r => by omega)
            have A3 := (r1.turn t2 (fun q => q)).turn t3 (fun r => by omega)
            have hA3 := A3.lt
            have V4 := Row.new w3 X 33
            have A4 := A3.alloc (.cells X 33)
            have T4 := T3.alloc (.cells X 33)
            have R4 := R3.turn_no ((Turn.refl no w3).alloc (.cells X 33))
            have hne : w3.heap.size ≠ g := by omega
            generalize w3.alloc (.cells X 33) = w4 at *
            generalize w3.heap.size = gv at *
            have D3 := C49 w4 q u R4
            clear C49 D2 R3 R4 t2 t3 A3 t1 T3 r1 n2
            go_upto_region 6 with (go_at_call 49; refine D3.mono ?_; rintro e' w5 ⟨rfl, n5, rfl⟩)
            clear D3
            have V5 := V4.drewN n5
            have A5 := A4.drewN n5
            have T5 := T4.drewN n5
            generalize w4.drewN n5 = w5 at *
            clear V4 A4 T4
            go_upto_region 12 with (first | (guard_target =~ wpList _ _ _ ({ dst := _, op := Op.load 33 _, .. } :: _) _ _; refine wpList_load_row rfl 33 (.tmp 8) rfl gv rfl 33 X (0, 0) _ V5 Try.underlying33 rfl hix ?_) | (go_at_call 41; refine (C39 _).mono ?_; rintro e' w6 ⟨rfl, t6⟩))
            have V6 := V5.turn t6 (fun q => q)
            have A6 := A5.turn t6 (fun q => q)
            have T6 := T5.then_no t6
            clear V5 A5 T5 t6
            have S7 : Turn (fun k => k = g) w6 w6.drew := (Turn.refl _ w6).drew
            have S8 : Turn (fun k => k = g) w6 (w6.drew.setRow g X) := S7.setRow _ _ (fun _ => rfl)
            have T8 : Turn no w (w6.drew.setRow g X) := T6.drew.setRow _ _ (fun q => by omega)
            have hz' : (w6.drew.setRow g X).heap[g]? = some (.cells X 33 (0, 0)) := setRow_heap _ _ _ _ _ _ A6.drew
            have HR := shutX (fun W (t : Turn (fun k => k = g) w6 W) => Row.range (cs := X.toList) (by simpa using V6.turn t (fun q => hne q)))
            have hixl : (Try.prog.info? 33).map (·.size) = some X.toList.length := by rw [Array.length_toList]; exact hix
            refine wp_region_held_drew (S := fun W => Turn (fun k => k = g) w6 W) (by kernel_rfl) (Turn.refl _ w6).drew (fun hHeld => ?_)
            refine' wpAnyH_take (i := 0) (v := .string ch) rfl (by kernel_rfl) (by kernel_rfl) (by kernel_rfl) (fun _ _ _ h => h) (Or.inl ⟨by kernel_rfl, fun W hW => ?y1⟩) hHeld ?r1
            · go_simp
            refine' wpAnyH_take (i := 1) (v := .agg X.toList.toArray) rfl (by kernel_rfl) (by kernel_rfl) (by kernel_rfl) (fun _ _ _ h => h) (yieldsIf_load_mid (by kernel_rfl) 33 (.tmp 8) rfl gv 0 (by kernel_rfl) X.toList _ (fun W h => HR.out W h) Try.underlying33 rfl hixl) hHeld ?s4
            refine' wpAnyH_take (i := 2) (v := .string ch) rfl (by kernel_rfl) (by kernel_rfl) (by kernel_rfl) (fun _ _ _ h => h) (Or.inl ⟨by kernel_rfl, fun W hW => ?y2⟩) hHeld ?r2
            · go_simp
            simp only [List.getElem_toArray, List.getElem_cons_succ, List.getElem_cons_zero, Act.put, List.setIfInBounds_toArray, List.set_cons_zero, List.set_cons_succ, Array.toArray_toList]
            refine wpAnyH_ready (rs := [3]) (by kernel_rfl) (by simp) ?_
            refine AllReadyH.cons rfl (fun K hK => ?_) AllReadyH.nil
            refine ite_mpr (by kernel_rfl) ?_
            refine wp_store_row 33 (.tmp 3) (.tmp 38) (by kernel_rfl) g X (by kernel_rfl) (by kernel_rfl) 33 Z A6.drew hix (by rw [hzl, hsx]) hox ?_
            refine hK.out _ _ S8 (fun hHeld => ?_)
            clear hK
            refine' wpAnyH_take (i := 4) (v := .int .i64 0) rfl (by kernel_rfl) (by kernel_rfl) (by kernel_rfl) (fun _ _ _ h => h) (Or.inl ⟨by kernel_rfl, fun W hW => ?y3⟩) hHeld ?r3
            · go_simp
            refine wpAnyH_done (by kernel_rfl) ?_ _
            go_wp2_with fail
            refine bodyPost_ret (v := .tuple #[.string ch, .agg X, .int .i64 0]) ?_ rfl ⟨by simp only [hX], T8⟩
            exact results_tmp_cell_tmp (P := Try.prog) Try.results20 _ _ g 33 X (0, 0) _ rfl hz' Try.underlying33 rfl hix
          · simp only [if_neg hp]
            have hp1 : (pe != 0) = true := by simpa using hp
            go_enter Try.func20, Try.ntmps20
            go_upto_region 1 with fail
            obtain ⟨Z1, hZ1, hZe⟩ : ∃ Z1 : Array Value, Z1 = #[.int .u64 0, .int .i64 0, .int .i64 0, .int .u8 0, .int .u8 0, .int .u8 0, .int .u8 0, .int .u8 0, .int .u8 0, .int .u8 0, .int .u8 0, .int .u8 0, .int .u8 0, .int .u8 0, .int .u8 0, .int .u8 0, .int .u8 0, .int .u8 0, .int .u8 0, .int .u8 0, .int .u8 0, .int .u8 0, .int .u8 0, .int .u8 0, .int .u8 0, .int .u8 0, .int .u8 0, .int .u8 0, .int .u8 0, .int .u8 0, .int .u8 0, .int .u8 0, .int .u8 0, .int .u8 0, .int .u8 0, .int .u64 0, .int .u8 0, .int .u8 0, .int .u8 0, .int .u8 0, .int .u8 0, .int .u8 0, .int .u8 0, .int .u8 0, .int .u8 0, .int .u8 0, .int .u8 0, .int .u8 0, .int .u8 0, .int .u8 0, .int .u8 0, .int .u8 0] ∧ Z1 = zeroPo.cs.toArray := ⟨_, rfl, rfl⟩
            rw [← hZ1, hZe, hZq, hw1]
            clear hZ1 hZe Z1 hw1
            generalize hg : w.heap.size = g at *
            go_upto_region 2 with (go_at_call 47; refine D.mono ?_; rintro e' w2 ⟨q, u, rfl, R2, n2, t2⟩)
            have hqg := n2 q (.inl rfl)
            have D2 := C48 w2 q u R2
            clear C48 D R2
            go_upto_region 5 with (first | (go_at_call 50; refine D2.mono ?_; rintro e' w3 ⟨rfl, R3, t3⟩) | (guard_target =~ wpList _ _ _ ({ dst := _, op := Op.store 33 _ _, .. } :: _) _ _; refine wpList_store_row rfl 33 (.tmp 8) (.tmp 20) rfl w3.heap.size X rfl rfl 33 _ (heap_alloc_new w3 _) hix (by rw [hsx]; rfl) hox ?_))
            rw [World.setRow_alloc_new]
            have T3 : Turn no w w3 := ((t1.then_no t2).of_no.trans t3 (S := fun k => k = q) (fun _ _ r => r)).mono (fun i hi r => by omega)
            have A3 := (r1.turn t2 (fun q => q)).turn t3 (fun r => by omega)
            have hA3 := A3.lt
            have V4 := Row.new w3 X 33
            have A4 := A3.alloc (.cells X 33)
            have T4 := T3.alloc (.cells X 33)
            have R4 := R3.turn_no ((Turn.refl no w3).alloc (.cells X 33))
            have hne : w3.heap.size ≠ g := by omega
            generalize w3.alloc (.cells X 33) = w4 at *
            generalize w3.heap.size = gv at *
            have D3 := C49 w4 q u R4
            clear C49 D2 R3 R4 t2 t3 A3 t1 T3 r1 n2
            go_upto_region 6 with (go_at_call 49; refine D3.mono ?_; rintro e' w5 ⟨rfl, n5, rfl⟩)
            clear D3
            have V5 := V4.drewN n5
            have A5 := A4.drewN n5
            have T5 := T4.drewN n5
            generalize w4.drewN n5 = w5 at *
            clear V4 A4 T4
            go_wp2_with (first | (guard_target =~ wpList _ _ _ ({ dst := _, op := Op.load 33 _, .. } :: _) _ _; refine wpList_load_row rfl 33 (.tmp 8) rfl gv rfl 33 X (0, 0) _ V5 Try.underlying33 rfl hix ?_) | (go_at_call 41; refine (C39 _).mono ?_; rintro e' w6 ⟨rfl, t6⟩) | (guard_target =~ wpList _ _ _ ({ dst := _, op := Op.build 33 _, .. } :: _) _ _; refine wpList_build_l rfl 33 [] rfl [] rfl Z hbz ?_) | (guard_target =~ wpList _ _ _ ({ dst := _, op := Op.store 33 _ _, .. } :: _) _ _; refine wpList_store_row rfl 33 (.tmp 3) (.tmp 35) rfl g Z rfl rfl 33 Z (A5.turn t6 (fun q => q)) hzi rfl hzo ?_))
            have A6 := A5.turn t6 (fun q => q)
            have T6 := T5.then_no t6
            have hz' : (w6.setRow g Z).heap[g]? = some (.cells Z 33 (0, 0)) := setRow_heap _ _ _ _ _ _ A6
            refine bodyPost_ret (v := .tuple #[.string ⟨#[]⟩, .agg Z, .int .i64 pe]) ?_ rfl ⟨by simp only [hZq], T6.setRow _ _ (fun q => by omega)⟩
            exact results_tmp_cell_tmp (P := Try.prog) Try.results20 _ _ g 33 Z (0, 0) _ rfl hz' Try.underlying33 rfl hzi
      · simp only [if_neg he]
        have he1 : (er == 0) = false := by simpa using he
        have he2 : (er != 0) = true := by simpa using he
        go_enter Try.func20, Try.ntmps20
        go_upto_region 1 with fail
        obtain ⟨Z1, hZ1, hZe⟩ : ∃ Z1 : Array Value, Z1 = #[.int .u64 0, .int .i64 0, .int .i64 0, .int .u8 0, .int .u8 0, .int .u8 0, .int .u8 0, .int .u8 0, .int .u8 0, .int .u8 0, .int .u8 0, .int .u8 0, .int .u8 0, .int .u8 0, .int .u8 0, .int .u8 0, .int .u8 0, .int .u8 0, .int .u8 0, .int .u8 0, .int .u8 0, .int .u8 0, .int .u8 0, .int .u8 0, .int .u8 0, .int .u8 0, .int .u8 0, .int .u8 0, .int .u8 0, .int .u8 0, .int .u8 0, .int .u8 0, .int .u8 0, .int .u8 0, .int .u8 0, .int .u64 0, .int .u8 0, .int .u8 0, .int .u8 0, .int .u8 0, .int .u8 0, .int .u8 0, .int .u8 0, .int .u8 0, .int .u8 0, .int .u8 0, .int .u8 0, .int .u8 0, .int .u8 0, .int .u8 0, .int .u8 0, .int .u8 0] ∧ Z1 = zeroPo.cs.toArray := ⟨_, rfl, rfl⟩
        rw [← hZ1, hZe, hZq, hw1]
        clear hZ1 hZe Z1 hw1
        generalize hg : w.heap.size = g at *
        go_upto_region 2 with (go_at_call 47; refine D.mono ?_; rintro e' w2 ⟨q, u, rfl, R2, n2, t2⟩)
        have hqg := n2 q (.inl rfl)
        have D2 := C48 w2 q u R2
        clear C48 D R2
        go_upto_region 5 with (first | (go_at_call 50; refine D2.mono ?_; rintro e' w3 ⟨rfl, R3, t3⟩) | (guard_target =~ wpList _ _ _ ({ dst := _, op := Op.store 33 _ _, .. } :: _) _ _; refine wpList_store_row rfl 33 (.tmp 8) (.tmp 20) rfl w3.heap.size X rfl rfl 33 _ (heap_alloc_new w3 _) hix (by rw [hsx]; rfl) hox ?_))
        rw [World.setRow_alloc_new]
        have T3 : Turn no w w3 := ((t1.then_no t2).of_no.trans t3 (S := fun k => k = q) (fun _ _ r => r)).mono (fun i hi r => by omega)
        have A3 := (r1.turn t2 (fun q => q)).turn t3 (fun r => by omega)
        have hA3 := A3.lt
        have V4 := Row.new w3 X 33
        have A4 := A3.alloc (.cells X 33)
        have T4 := T3.alloc (.cells X 33)
        have R4 := R3.turn_no ((Turn.refl no w3).alloc (.cells X 33))
        have hne : w3.heap.size ≠ g := by omega
        generalize w3.alloc (.cells X 33) = w4 at *
        generalize w3.heap.size = gv at *
        have D3 := C49 w4 q u R4
        clear C49 D2 R3 R4 t2 t3 A3 t1 T3 r1 n2
        go_upto_region 6 with (go_at_call 49; refine D3.mono ?_; rintro e' w5 ⟨rfl, n5, rfl⟩)
        clear D3
        have V5 := V4.drewN n5
        have A5 := A4.drewN n5
        have T5 := T4.drewN n5
        generalize w4.drewN n5 = w5 at *
        clear V4 A4 T4
        go_wp2_with (first  | (guard_target =~ wpList _ _ _ ({ dst := _, op := Op.build 33 _, .. } :: _) _ _; refine wpList_build_l rfl 33 [] rfl [] rfl Z hbz ?_) | (guard_target =~ wpList _ _ _ ({ dst := _, op := Op.store 33 _ _, .. } :: _) _ _; refine wpList_store_row rfl 33 (.tmp 3) (.tmp 35) rfl g Z rfl rfl 33 Z A5 hzi rfl hzo ?_))
        have A6 := A5
        have T6 := T5
        have hz' : (w5.setRow g Z).heap[g]? = some (.cells Z 33 (0, 0)) := setRow_heap _ _ _ _ _ _ A6
        refine bodyPost_ret (v := .tuple #[.string ⟨#[]⟩, .agg Z, .int .i64 er]) ?_ rfl ⟨by simp only [hZq], T6.setRow _ _ (fun q => by omega)⟩
        exact results_tmp_cell_tmp (P := Try.prog) Try.results20 _ _ g 33 Z (0, 0) _ rfl hz' Try.underlying33 rfl hzi
    · have D := opened_bad _ v bs 80 hb1 hle h0 hne
      rw [anP_bad bs h0 hne]
      dsimp only
      obtain ⟨va, vc, rfl⟩ := hb.slice
      clear hb hb1 h0 hne hle
      generalize bs.length = M at *
      generalize hZq : zeroPo.cs.toArray = Z at *
      generalize hw1 : w.alloc (.cells Z 33) = w1 at *
      go_enter Try.func20, Try.ntmps20
      go_upto_region 1 with fail
      obtain ⟨Z1, hZ1, hZe⟩ : ∃ Z1 : Array Value, Z1 = #[.int .u64 0, .int .i64 0, .int .i64 0, .int .u8 0, .int .u8 0, .int .u8 0, .int .u8 0, .int .u8 0, .int .u8 0, .int .u8 0, .int .u8 0, .int .u8 0, .int .u8 0, .int .u8 0, .int .u8 0, .int .u8 0, .int .u8 0, .int .u8 0, .int .u8 0, .int .u8 0, .int .u8 0, .int .u8 0, .int .u8 0, .int .u8 0, .int .u8 0, .int .u8 0, .int .u8 0, .int .u8 0, .int .u8 0, .int .u8 0, .int .u8 0, .int .u8 0, .int .u8 0, .int .u8 0, .int .u8 0, .int .u64 0, .int .u8 0, .int .u8 0, .int .u8 0, .int .u8 0, .int .u8 0, .int .u8 0, .int .u8 0, .int .u8 0, .int .u8 0, .int .u8 0, .int .u8 0, .int .u8 0, .int .u8 0, .int .u8 0, .int .u8 0, .int .u8 0] ∧ Z1 = zeroPo.cs.toArray := ⟨_, rfl, rfl⟩
      rw [← hZ1, hZe, hZq, hw1]
      clear hZ1 hZe Z1 hw1
      generalize hg : w.heap.size = g at *
      go_wp2_with (first | (go_at_call 47; refine D.mono ?_; rintro e w2 ⟨q, rfl, t2⟩) | (guard_target =~ wpList _ _ _ ({ dst := _, op := Op.build 33 _, .. } :: _) _ _; refine wpList_build_l rfl 33 [] rfl [] rfl Z hbz ?_) | (guard_target =~ wpList _ _ _ ({ dst := _, op := Op.store 33 _ _, .. } :: _) _ _; refine wpList_store_row rfl 33 (.tmp 3) (.tmp 17) rfl g Z rfl rfl 33 Z (r1.turn t2 (fun q => q)) hzi rfl hzo ?_))
      have hz' : (w2.setRow g Z).heap[g]? = some (.cells Z 33 (0, 0)) := setRow_heap _ _ _ _ _ _ (r1.turn t2 (fun q => q))
      refine bodyPost_ret (v := .tuple #[.string ⟨#[]⟩, .agg Z, .int .i64 40]) ?_ rfl ⟨rfl, (t1.then_no t2).setRow _ _ (fun q => by omega)⟩
      exact results_tmp_cell_tmp (P := Try.prog) Try.results20 _ _ g 33 Z (0, 0) _ rfl hz' Try.underlying33 rfl hzi
  · have hE : bs = [] := List.eq_nil_of_length_eq_zero (by omega)
    subst hE
    have D := opened_nil _ v 80 hb1
    rw [anP_nil]
    dsimp only
    obtain ⟨va, vc, rfl⟩ := hb.slice
    clear hb hb1 h0 hle
    dsimp only [List.length_nil] at *
    generalize hZq : zeroPo.cs.toArray = Z at *
    generalize hw1 : w.alloc (.cells Z 33) = w1 at *
    go_enter Try.func20, Try.ntmps20
    go_upto_region 1 with fail
    obtain ⟨Z1, hZ1, hZe⟩ : ∃ Z1 : Array Value, Z1 = #[.int .u64 0, .int .i64 0, .int .i64 0, .int .u8 0, .int .u8 0, .int .u8 0, .int .u8 0, .int .u8 0, .int .u8 0, .int .u8 0, .int .u8 0, .int .u8 0, .int .u8 0, .int .u8 0, .int .u8 0, .int .u8 0, .int .u8 0, .int .u8 0, .int .u8 0, .int .u8 0, .int .u8 0, .int .u8 0, .int .u8 0, .int .u8 0, .int .u8 0, .int .u8 0, .int .u8 0, .int .u8 0, .int .u8 0, .int .u8 0, .int .u8 0, .int .u8 0, .int .u8 0, .int .u8 0, .int .u8 0, .int .u64 0, .int .u8 0, .int .u8 0, .int .u8 0, .int .u8 0, .int .u8 0, .int .u8 0, .int .u8 0, .int .u8 0, .int .u8 0, .int .u8 0, .int .u8 0, .int .u8 0, .int .u8 0, .int .u8 0, .int .u8 0, .int .u8 0] ∧ Z1 = zeroPo.cs.toArray := ⟨_, rfl, rfl⟩
    rw [← hZ1, hZe, hZq, hw1]
    clear hZ1 hZe Z1 hw1
    generalize hg : w.heap.size = g at *
    go_wp2_with (first | (go_at_call 47; refine D.mono ?_; rintro e w2 ⟨q, rfl, t2⟩) | (guard_target =~ wpList _ _ _ ({ dst := _, op := Op.build 33 _, .. } :: _) _ _; refine wpList_build_l rfl 33 [] rfl [] rfl Z hbz ?_) | (guard_target =~ wpList _ _ _ ({ dst := _, op := Op.store 33 _ _, .. } :: _) _ _; refine wpList_store_row rfl 33 (.tmp 3) (.tmp 17) rfl g Z rfl rfl 33 Z (r1.turn t2 (fun q => q)) hzi rfl hzo ?_))
    have hz' : (w2.setRow g Z).heap[g]? = some (.cells Z 33 (0, 0)) := setRow_heap _ _ _ _ _ _ (r1.turn t2 (fun q => q))
    refine bodyPost_ret (v := .tuple #[.string ⟨#[]⟩, .agg Z, .int .i64 10]) ?_ rfl ⟨rfl, (t1.then_no t2).setRow _ _ (fun q => by omega)⟩
    exact results_tmp_cell_tmp (P := Try.prog) Try.results20 _ _ g 33 Z (0, 0) _ rfl hz' Try.underlying33 rfl hzi
end Go.Proofs.Ytpfjllkmaogafaa

/- Of the law: lent, kept; votes and proposals held against themselves. -/
namespace Go.Proofs.Ytpfjllkmaogafaa
open Go.RowKit
set_option linter.unusedVariables false

/-- What 'lent' hands out: a row of its own with two marks behind. -/
def Lend (w : World) (v : Value) (bs : List UInt8) : Prop :=
  ∃ g cap cur, v = .slice (some ⟨g, 0, none⟩) bs.length cap ∧ w.heap[g]? = some (.cells cur 5 (0, 0)) ∧ bs.length + 2 ≤ cap ∧ cap ≤ maxLen ∧ cur.size = cap ∧ cur.toList.take (bs.length + 2) = (bs ++ [171, 172]).map bv

set_option maxRecDepth 100000 in
set_option maxHeartbeats 1000000 in
theorem lent16 (w : World) (v : Value) (bs : List UInt8) (hb : Bs w v bs) (hle : bs.length + 2 ≤ 140737488355328) :
    Calls Try.prog 16 #[v] w fun e w' => ∃ v' g, e = .returned v' ∧ Lend w' v' bs ∧ v'.ownBlock = some g ∧ w.heap.size ≤ g ∧ Turn no w w' := by
  obtain ⟨a, c, rfl⟩ := hb.slice
  have hm : maxLen = 9223372036854775807 := by unfold maxLen; omega
  go_enter Try.func16, Try.ntmps16
  go_wp2_with (at_builtin; refine wpList_append_src rfl (.tmp 4) (.tmp 5) rfl Try.underlying36 Try.info5 rfl _ [] rfl (own_empty _ _) _ bs.length (bs.map bv) rfl ?src ?b ?m ?_)
  case src => exact Bs.src Try.underlying36 (hb.turn_no ((Turn.refl _ _).alloc _))
  case b => simp; omega
  case m => simp [hm]; omega
  intro v1 w1 hown1 hgrew1 _
  have hown1 : Own w1 5 v1 (bs.map bv) := hown1
  have hf0 : ∀ g, (Value.slice (some ⟨w.heap.size, 0, none⟩) 0 0).ownBlock = some g → w.heap.size ≤ g := fun g q => by cases q; exact Nat.le_refl _
  have hT1 : Turn no w w1 := ((Turn.refl _ _).alloc _).fresh hgrew1 hf0
  have hf1 := hgrew1.fresh hf0 (by simp)
  clear hgrew1 hf0
  go_wp2_with (at_builtin; refine wpList_append_src rfl (.tmp 7) (.tmp 8) rfl Try.underlying36 Try.info5 rfl _ (bs.map bv) rfl (hown1.turn_no ((Turn.refl _ _).alloc _)) _ 2 (List.map bv [171, 172]) rfl ?src ?b ?m ?_)
  case src => exact src_lit Try.underlying36 w1 [171, 172]
  case b => simp; omega
  case m => simp [hm]; omega
  intro v2 w2 hown2 hgrew2 hne2
  have hown2 : Own w2 5 v2 ((bs ++ [171, 172]).map bv) := by simpa using hown2
  have hT2 : Turn no w w2 := (hT1.alloc _).fresh hgrew2 hf1
  have hf2 := hgrew2.fresh hf1 (by have := hT1.size; simp; omega)
  clear hgrew2 hf1 hne2 hown1
  rcases hown2.shape with ⟨rfl, q⟩ | ⟨g, cap, cur, rfl, hg, h1, h2, h3, h4⟩
  · simp at q
  · clear hown2
    have hg2 := hf2 g rfl
    have e1 : ((bs ++ [171, 172]).map bv).length = bs.length + 2 := by simp
    rw [e1] at h1 h4 ⊢
    have hx : (bs.length : Int) ≤ (cap : Int) := by omega
    go_wp2_with fail
    all_goals (go_ret; exact ⟨_, g, rfl, ⟨g, cap, cur, rfl, hg, h1, h2, h3, h4⟩, rfl, hg2, hT2⟩)

theorem Lend.bs {w : World} {v : Value} {bs : List UInt8} (h : Lend w v bs) : Bs w v bs := by
  obtain ⟨g, cap, cur, rfl, hg, h1, h2, h3, h4⟩ := h
  refine Or.inr ⟨⟨g, 0, none⟩, cap, rfl, by omega, h2, fun j u hu => ?_⟩
  rw [Addr.add_lit, cell_of_row w g (0 + j) cur 5 (0, 0) hg, Nat.zero_add]
  have hj : j < bs.length := (List.getElem?_eq_some_iff.1 hu).1
  have : (cur.toList.take (bs.length + 2))[j]? = some (bv u) := by
    rw [h4, List.getElem?_map, List.getElem?_append_left hj, hu]; rfl
  rw [List.getElem?_take, if_pos (by omega)] at this
  simpa using this
theorem Lend.turn_no {w w' : World} {v : Value} {bs : List UInt8} (h : Lend w v bs) (t : Turn no w w') : Lend w' v bs := by
  obtain ⟨g, cap, cur, rfl, hg, r⟩ := h
  exact ⟨g, cap, cur, rfl, t.obj hg (fun q => q), r⟩
theorem Lend.mark {w : World} {g : Nat} {cur : Array Value} {bs : List UInt8} (hg : w.heap[g]? = some (.cells cur 5 (0, 0))) (h4 : cur.toList.take (bs.length + 2) = (bs ++ [171, 172]).map bv) (j : Nat) (hj : j < 2) : w.cell? ⟨g, bs.length + j, none⟩ = some (bv ([171, 172].getD j 0)) := by
  rw [cell_of_row w g _ cur 5 (0, 0) hg]
  have : (cur.toList.take (bs.length + 2))[bs.length + j]? = some (bv ([171, 172].getD j 0)) := by
    rw [h4, List.getElem?_map, List.getElem?_append_right (by omega)]
    have : bs.length + j - bs.length = j := by omega
    rw [this]
    match j, hj with
    | 0, _ => rfl
    | 1, _ => rfl
  rw [List.getElem?_take, if_pos (by omega)] at this
  simpa using this

set_option maxRecDepth 100000 in
set_option maxHeartbeats 1000000 in
theorem kept21 (w : World) (vl vb : Value) (bs : List UInt8) (hlent : Lend w vl bs) (hb : Bs w vb bs) (hle : bs.length + 2 ≤ 140737488355328) :
    Calls Try.prog 21 #[vl, vb] w fun e w' => e = .returned (.bool true) ∧ Turn no w w' := by
  have hbs := hlent.bs
  obtain ⟨a, c, rfl⟩ := hb.slice
  obtain ⟨g, cap, cur, rfl, hg, h1, h2, h3, h4⟩ := hlent
  have m0 := Lend.mark hg h4 0 (by omega)
  have m1 := Lend.mark hg h4 1 (by omega)
  have q0 : bv ([171, 172].getD 0 0) = .int .u8 171 := rfl
  have q1 : bv ([171, 172].getD 1 0) = .int .u8 172 := rfl
  rw [q0, Nat.add_zero] at m0
  rw [q1] at m1
  clear q0 q1 h4 hg
  unfold maxLen at h2
  have c1 := same14 w _ _ bs bs hbs hb
  rw [beq_self_eq_true] at c1
  obtain ⟨N, hN⟩ : ∃ N, bs.length = N := ⟨_, rfl⟩
  rw [hN] at h1 m0 m1 hle c1 ⊢
  obtain ⟨M, hM⟩ : ∃ M, N + 2 = M := ⟨_, rfl⟩
  have e1 : (N : Int) + 2 = (M : Int) := by omega
  have e2 : (M : Int) ≤ (cap : Int) := by omega
  have e3 : (M : Int) ≤ 140737488355328 := by omega
  have e4 : (N : Int) < (M : Int) := by omega
  have e5 : (N : Int) + 1 < (M : Int) := by omega
  clear hbs hb hN
  go_enter Try.func21, Try.ntmps21
  go_upto_region 3 with fail
  go_wp2_with (go_at_call 14; refine c1.mono ?_; rintro e w1 ⟨rfl, n, rfl⟩; have m0' : (w.drewN n).cell? ⟨g, N, none⟩ = some (.int .u8 171) := m0; have m1' : (w.drewN n).cell? ⟨g, N + 1, none⟩ = some (.int .u8 172) := m1)
  go_ret
  exact ⟨rfl, (Turn.refl no w).drewN _⟩
theorem eqFields_self (w : World) (d : Nat) (xs : Array Value) : ∀ fs : List Field, (∀ f ∈ fs, ∃ v, (part f.type xs f.offset).run Try.prog w = .ok v w ∧ (Op.equalIn d f.type v v).run Try.prog w = .ok true w) → (Op.eqFields d xs xs fs).run Try.prog w = .ok true w
  | [], _ => by simp [Op.eqFields]
  | f :: fs, h => by
    obtain ⟨v, h1, h2⟩ := h f (by simp)
    have ih := eqFields_self w d xs fs (fun g hg => h g (by simp [hg]))
    simp only [Op.eqFields, Sem.run_bind, Sem.run_ite]
    split
    · simp only [h1, h2, Result.andThen_ok, Bool.not_true, Bool.false_eq_true, if_false]
      exact ih
    · exact ih
theorem Vt.x24 {v : Vt} (h : v.ok) : v.cs.toArray.extract 3 35 = (v.id.map bv).toArray := by
  apply Array.ext'
  simp only [Array.toList_extract, Vt.cs, List.extract_eq_take_drop]
  simp [h.1]
theorem Vt.x27 {v : Vt} (h : v.ok) : v.cs.toArray.extract 37 53 = (v.se.map bv).toArray := by
  apply Array.ext'
  simp only [Array.toList_extract, Vt.cs, List.extract_eq_take_drop]
  simp [List.drop_append, h.1]
  rw [List.drop_eq_nil_of_le (by simp [h.1]), List.nil_append]
  exact List.take_of_length_le (by simp [h.2])
theorem cell_part {t : TypeId} (w : World) {xs : Array Value} {o : Nat} {v : Value} (ha : (isAgg t).run Try.prog w = .ok false w) (h : xs[o]? = some v) : (part t xs o).run Try.prog w = .ok v w := by
  simp [part, ha, h]
theorem agg_part {t : TypeId} (w : World) {xs ys : Array Value} {o n : Nat} (ha : (isAgg t).run Try.prog w = .ok true w) (hs : (Try.prog.info? t).map (·.size) = some n) (h : xs.extract o (o + n) = ys) : (part t xs o).run Try.prog w = .ok (.agg ys) w := by
  cases hq : Try.prog.info? t with
  | none => simp [hq] at hs
  | some i =>
    have hi : i.size = n := by simpa [hq] using hs
    simp [part, ha, sizeOf, typeInfo, hq, hi, h]
theorem size25 : (Try.prog.info? 25).map (·.size) = some 16 := by kernel_rfl
theorem fields31 : (Try.prog.fieldsOf 31).toList.map (fun f => (f.type, f.offset)) = [(3, 0), (22, 1), (3, 2), (29, 3), (22, 35), (23, 36), (25, 37)] := by kernel_rfl
theorem fields33 : (Try.prog.fieldsOf 33).toList.map (fun f => (f.type, f.offset)) = [(22, 0), (3, 1), (3, 2), (29, 3), (23, 35), (25, 36)] := by kernel_rfl
theorem eqV (w : World) (d : Nat) (v : Vt) (h : v.ok) : (Op.equalIn (d + 3) 31 (.agg v.cs.toArray) (.agg v.cs.toArray)).run Try.prog w = .ok true w := by
  rw [run_equalIn_struct w (d + 2) 31 _ _ (by kernel_rfl) (by kernel_rfl)]
  refine eqFields_self w (d + 2) _ _ (fun f hf => ?_)
  have hm : (f.type, f.offset) ∈ [(3, 0), (22, 1), (3, 2), (29, 3), (22, 35), (23, 36), (25, 37)] := by
    rw [← fields31]
    exact List.mem_map.2 ⟨f, hf, rfl⟩
  generalize f.type = t at *
  generalize f.offset = o at *
  simp only [List.mem_cons, Prod.mk.injEq, List.not_mem_nil, or_false] at hm
  rcases hm with ⟨rfl, rfl⟩ | ⟨rfl, rfl⟩ | ⟨rfl, rfl⟩ | ⟨rfl, rfl⟩ | ⟨rfl, rfl⟩ | ⟨rfl, rfl⟩ | ⟨rfl, rfl⟩
  · exact ⟨_, cell_part w (by kernel_rfl) v.c0, by rw [run_equalIn_int w (d + 1) 3 .i64 .i64 _ _ Try.underlying3]; simp⟩
  · exact ⟨_, cell_part w (by kernel_rfl) v.c1, by rw [run_equalIn_int w (d + 1) 22 .u64 .u64 _ _ Try.underlying22]; simp⟩
  · exact ⟨_, cell_part w (by kernel_rfl) v.c2, by rw [run_equalIn_int w (d + 1) 3 .i64 .i64 _ _ Try.underlying3]; simp⟩
  · exact ⟨_, agg_part w (by kernel_rfl) size24 (Vt.x24 h), by rw [eqIn24 w d _ _ h.1 h.1]; simp⟩
  · exact ⟨_, cell_part w (by kernel_rfl) (Vt.c35 h), by rw [run_equalIn_int w (d + 1) 22 .u64 .u64 _ _ Try.underlying22]; simp⟩
  · exact ⟨_, cell_part w (by kernel_rfl) (Vt.c36 h), by rw [run_equalIn_int w (d + 1) 23 .u64 .u64 _ _ Try.underlying23]; simp⟩
  · exact ⟨_, agg_part w (by kernel_rfl) size25 (Vt.x27 h), by rw [eqIn27 w d _ _ h.2 h.2]; simp⟩
theorem Po.x24 {v : Po} (h : v.ok) : v.cs.toArray.extract 3 35 = (v.id.map bv).toArray := by
  apply Array.ext'
  simp only [Array.toList_extract, Po.cs, List.extract_eq_take_drop]
  simp [h.1]
theorem Po.x27 {v : Po} (h : v.ok) : v.cs.toArray.extract 36 52 = (v.se.map bv).toArray := by
  apply Array.ext'
  simp only [Array.toList_extract, Po.cs, List.extract_eq_take_drop]
  simp [List.drop_append, h.1]
  rw [List.drop_eq_nil_of_le (by simp [h.1]), List.nil_append]
  exact List.take_of_length_le (by simp [h.2.1])
theorem Po.c0 (x : Po) : x.cs.toArray[(0 : Nat)]? = some (.int .u64 x.h) := by simp [Po.cs]
theorem eqP (w : World) (d : Nat) (v : Po) (h : v.ok) : (Op.equalIn (d + 3) 33 (.agg v.cs.toArray) (.agg v.cs.toArray)).run Try.prog w = .ok true w := by
  rw [run_equalIn_struct w (d + 2) 33 _ _ (by kernel_rfl) (by kernel_rfl)]
  refine eqFields_self w (d + 2) _ _ (fun f hf => ?_)
  have hm : (f.type, f.offset) ∈ [(22, 0), (3, 1), (3, 2), (29, 3), (23, 35), (25, 36)] := by
    rw [← fields33]
    exact List.mem_map.2 ⟨f, hf, rfl⟩
  generalize f.type = t at *
  generalize f.offset = o at *
  simp only [List.mem_cons, Prod.mk.injEq, List.not_mem_nil, or_false] at hm
  rcases hm with ⟨rfl, rfl⟩ | ⟨rfl, rfl⟩ | ⟨rfl, rfl⟩ | ⟨rfl, rfl⟩ | ⟨rfl, rfl⟩ | ⟨rfl, rfl⟩
  · exact ⟨_, cell_part w (by kernel_rfl) v.c0, by rw [run_equalIn_int w (d + 1) 22 .u64 .u64 _ _ Try.underlying22]; simp⟩
  · exact ⟨_, cell_part w (by kernel_rfl) v.c1, by rw [run_equalIn_int w (d + 1) 3 .i64 .i64 _ _ Try.underlying3]; simp⟩
  · exact ⟨_, cell_part w (by kernel_rfl) v.c2, by rw [run_equalIn_int w (d + 1) 3 .i64 .i64 _ _ Try.underlying3]; simp⟩
  · exact ⟨_, agg_part w (by kernel_rfl) size24 (Po.x24 h), by rw [eqIn24 w d _ _ h.1 h.1]; simp⟩
  · exact ⟨_, cell_part w (by kernel_rfl) (v.c35 h.1), by rw [run_equalIn_int w (d + 1) 23 .u64 .u64 _ _ Try.underlying23]; simp⟩
  · exact ⟨_, agg_part w (by kernel_rfl) size25 (Po.x27 h), by rw [eqIn27 w d _ _ h.2.1 h.2.1]; simp⟩
theorem eqlV (w : World) (v : Vt) (h : v.ok) : (binOp .eql 31 (.agg v.cs.toArray) (.agg v.cs.toArray)).run Try.prog w = .ok (.bool true) w := by
  rw [run_eql_struct, eqV w 9997 v h]
  rfl
theorem eqlP (w : World) (v : Po) (h : v.ok) : (binOp .eql 33 (.agg v.cs.toArray) (.agg v.cs.toArray)).run Try.prog w = .ok (.bool true) w := by
  rw [run_eql_struct, eqP w 9997 v h]
  rfl
end Go.Proofs.Ytpfjllkmaogafaa

/- The walk of WireSaid. -/
namespace Go.Proofs.Ytpfjllkmaogafaa
open Go.RowKit
set_option linter.unusedVariables false

theorem wpList_eqlG {P : Program} {ops : Array Oper} {rest : List Oper} {op : Oper} {a : Act} {w : World} {Q : Exit → Act → World → Prop} (hgd : Region.wanted op (yielded ops a.tmps) = true) (t t2 : TypeId) (x y : Operand) (ho : op.op = .binOp .eql t x y t2) (vx vy : Value) (hx : a.eval x = vx) (hy : a.eval y = vy) (r : Value) (hq : (eqGuard .eql t x y vx vy).run P w = .ok () w) (hr : (binOp .eql t vx vy).run P w = .ok r w) (h : wpList P ops Q rest (a.put op.dst r) w) : wpList P ops Q (op :: rest) a w :=
  wpList_want hgd fun K hK => by
    unfold Oper.wp execOp
    simp only [ho, hx, hy, Sem.run_bind, hq, hr, Result.andThen_ok, Sem.run_pure]
    exact hK _ _ h
theorem guard31 (w : World) (x y : Operand) (A B : Array Value) : (eqGuard .eql 31 x y (.agg A) (.agg B)).run Try.prog w = .ok () w := by
  kernel_rfl
theorem guard33 (w : World) (x y : Operand) (A B : Array Value) : (eqGuard .eql 33 x y (.agg A) (.agg B)).run Try.prog w = .ok () w := by
  kernel_rfl
set_option maxRecDepth 100000 in
set_option maxHeartbeats 4000000 in
theorem said4 (w : World) (v : Value) (bs : List UInt8) (hb : Bs w v bs) (hle : bs.length + 2 ≤ 140737488355328) :
    Calls Try.prog 4 #[v] w fun e w' => e = .returned (.bool true) ∧ Turn no w w' := by
  have hokV := anV_ok bs
  have hokP := anP_ok bs
  have A := lent16 w v bs hb hle
  have C17 := fun W u (h : Bs W u bs) => readVote17 W u bs h (by omega)
  have C18 := fun W u (h : Bs W u bs) => readProp18 W u bs h (by omega)
  have C19 := fun W (t : Turn no w W) => readVote19 W v bs (hb.turn_no t) (by omega)
  have C20 := fun W (t : Turn no w W) => readProp20 W v bs (hb.turn_no t) (by omega)
  have CK := fun W u (h : Lend W u bs) (t : Turn no w W) => kept21 W u v bs h (hb.turn_no t) hle
  have BS := fun W u (h : Lend W u bs) => h.bs
  generalize anV bs = a at *
  obtain ⟨ch, x, er⟩ := a
  generalize anP bs = b at *
  obtain ⟨dh, y, fr⟩ := b
  dsimp only at *
  have hxo := all_oneCell_toArray (Vt.one x)
  have hxs : x.cs.toArray.size = 53 := Vt.size hokV.1
  have hxi : (Try.prog.info? 31).map (·.size) = some x.cs.toArray.size := by rw [hxs]; exact size29
  have hyo := all_oneCell_toArray (Po.one y)
  have hys : y.cs.toArray.size = 52 := Po.size y hokP.1 hokP.2.1
  have hyi : (Try.prog.info? 33).map (·.size) = some y.cs.toArray.size := by rw [hys]; kernel_rfl
  have EV := fun W => eqlV W x hokV.1
  have EP := fun W => eqlP W y hokP
  have hxil : (Try.prog.info? 31).map (·.size) = some x.cs.length := by rw [Vt.len hokV.1]; exact size29
  have hyil : (Try.prog.info? 33).map (·.size) = some y.cs.length := by rw [Po.len hokP]; kernel_rfl
  obtain ⟨X, hX⟩ : ∃ X, x.cs = X := ⟨_, rfl⟩
  obtain ⟨Y, hY⟩ : ∃ Y, y.cs = Y := ⟨_, rfl⟩
  rw [hX] at hxo hxs hxi hxil EV C17 C19
  rw [hY] at hyo hys hyi hyil EP C18 C20
  clear hX hY hokV hokP
  obtain ⟨va, vc, rfl⟩ := hb.slice
  clear hb
  have H1 := shutX (And.intro C17 (And.intro C18 (And.intro C19 (And.intro C20 (And.intro CK BS)))))
  clear C17 C18 C19 C20 CK BS
  have HE := shutX (And.intro EV EP)
  clear EV EP
  go_enter Try.func4, Try.ntmps4
  go_upto_region 2 with (go_at_call 16; refine A.mono ?_; rintro e w1 ⟨u, g, rfl, L1, hu, hgu, t1⟩; obtain ⟨ua, ul, uc, rfl⟩ : ∃ a l c, u = .slice a l c := by obtain ⟨g0, cap0, cur0, rfl, -⟩ := L1; exact ⟨_, _, _, rfl⟩)
  clear A hu
  have D2 := H1.out.1 w1 _ (H1.out.2.2.2.2.2 w1 _ L1)
  go_upto_region 3 with (first | (go_at_call 17; refine D2.mono ?_; rintro e w2 ⟨rfl, s2⟩) | (guard_target =~ wpList _ _ _ ({ dst := _, op := Op.store 31 _ _, .. } :: _) _ _; refine wpList_store_row rfl 31 (.tmp 5) (.tmp 22) rfl w2.heap.size X.toArray rfl rfl 31 _ (heap_alloc_new w2 _) hxi (by rw [hxs]; rfl) hxo ?_))
  rw [World.setRow_alloc_new]
  have r2 := Row.new w2 X.toArray 31
  have t2 : Turn no w1 (w2.alloc (.cells X.toArray 31)) := s2.alloc _
  generalize hy2 : w2.alloc (.cells X.toArray 31) = y2 at *
  generalize hg2 : w2.heap.size = g2 at *
  clear hy2 hg2 s2
  have D3 := H1.out.2.1 y2 _ (H1.out.2.2.2.2.2 y2 _ (L1.turn_no t2))
  clear D2
  go_upto_region 4 with (first | (go_at_call 18; refine D3.mono ?_; rintro e w3 ⟨rfl, s3⟩) | (guard_target =~ wpList _ _ _ ({ dst := _, op := Op.store 33 _ _, .. } :: _) _ _; refine wpList_store_row rfl 33 (.tmp 8) (.tmp 28) rfl w3.heap.size Y.toArray rfl rfl 33 _ (heap_alloc_new w3 _) hyi (by rw [hys]; rfl) hyo ?_))
  rw [World.setRow_alloc_new]
  have r3 := Row.new w3 Y.toArray 33
  have t3 : Turn no y2 (w3.alloc (.cells Y.toArray 33)) := s3.alloc _
  generalize hy3 : w3.alloc (.cells Y.toArray 33) = y3 at *
  generalize hg3 : w3.heap.size = g3 at *
  clear hy3 hg3 s3
  have D4 := H1.out.2.2.1 y3 ((t1.then_no t2).then_no t3)
  clear D3
  go_upto_region 5 with (first | (go_at_call 19; refine D4.mono ?_; rintro e w4 ⟨rfl, s4⟩) | (guard_target =~ wpList _ _ _ ({ dst := _, op := Op.store 31 _ _, .. } :: _) _ _; refine wpList_store_row rfl 31 (.tmp 11) (.tmp 34) rfl w4.heap.size X.toArray rfl rfl 31 _ (heap_alloc_new w4 _) hxi (by rw [hxs]; rfl) hxo ?_))
  rw [World.setRow_alloc_new]
  have r4 := Row.new w4 X.toArray 31
  have t4 : Turn no y3 (w4.alloc (.cells X.toArray 31)) := s4.alloc _
  generalize hy4 : w4.alloc (.cells X.toArray 31) = y4 at *
  generalize hg4 : w4.heap.size = g4 at *
  clear hy4 hg4 s4
  have D5 := H1.out.2.2.2.1 y4 (((t1.then_no t2).then_no t3).then_no t4)
  clear D4
  go_upto_region 6 with (first | (go_at_call 20; refine D5.mono ?_; rintro e w5 ⟨rfl, s5⟩) | (guard_target =~ wpList _ _ _ ({ dst := _, op := Op.store 33 _ _, .. } :: _) _ _; refine wpList_store_row rfl 33 (.tmp 14) (.tmp 40) rfl w5.heap.size Y.toArray rfl rfl 33 _ (heap_alloc_new w5 _) hyi (by rw [hys]; rfl) hyo ?_))
  rw [World.setRow_alloc_new]
  have r5 := Row.new w5 Y.toArray 33
  have t5 : Turn no y4 (w5.alloc (.cells Y.toArray 33)) := s5.alloc _
  generalize hy5 : w5.alloc (.cells Y.toArray 33) = y5 at *
  generalize hg5 : w5.heap.size = g5 at *
  clear hy5 hg5 s5
  have T5 := (((t1.then_no t2).then_no t3).then_no t4).then_no t5
  have K5 := H1.out.2.2.2.2.1 y5 _ (((((L1.turn_no t2).turn_no t3).turn_no t4).turn_no t5)) T5
  have R2 := (((r2.turn t3 (fun q => q)).turn t4 (fun q => q)).turn t5 (fun q => q)).range
  have R3 := ((r3.turn t4 (fun q => q)).turn t5 (fun q => q)).range
  have R4 := (r4.turn t5 (fun q => q)).range
  have R5 := r5.range
  have HR := shutX (And.intro R2 (And.intro R3 (And.intro R4 R5)))
  clear R2 R3 R4 R5 r2 r3 r4 r5 t1 t2 t3 t4 t5 L1 H1 D5
  have HK := shutX K5
  clear K5
  go_wp2_with (first | (go_at_call 13; refine (num13 _ _).mono ?_; rintro e w9 ⟨rfl, rfl⟩) | (go_at_call 21; refine HK.out.mono ?_; rintro e w9 ⟨rfl, t9⟩) | (guard_target =~ wpList _ _ _ ({ dst := some 52, .. } :: _) _ _; refine wpList_load_midG (by kernel_rfl) 31 (.tmp 5) rfl g2 0 (by kernel_rfl) X _ HR.out.1 Try.underlying31 rfl hxil ?_) | (guard_target =~ wpList _ _ _ ({ dst := some 53, .. } :: _) _ _; refine wpList_load_midG (by kernel_rfl) 31 (.tmp 11) rfl g4 0 (by kernel_rfl) X _ HR.out.2.2.1 Try.underlying31 rfl hxil ?_) | (guard_target =~ wpList _ _ _ ({ dst := some 68, .. } :: _) _ _; refine wpList_load_midG (by kernel_rfl) 33 (.tmp 8) rfl g3 0 (by kernel_rfl) Y _ HR.out.2.1 Try.underlying33 rfl hyil ?_) | (guard_target =~ wpList _ _ _ ({ dst := some 69, .. } :: _) _ _; refine wpList_load_midG (by kernel_rfl) 33 (.tmp 14) rfl g5 0 (by kernel_rfl) Y _ HR.out.2.2.2 Try.underlying33 rfl hyil ?_) | (guard_target =~ wpList _ _ _ ({ dst := some 54, .. } :: _) _ _; refine wpList_eqlG (by kernel_rfl) 31 31 (.tmp 52) (.tmp 53) rfl (.agg X.toArray) (.agg X.toArray) (by kernel_rfl) (by kernel_rfl) (.bool true) (guard31 _ _ _ _ _) (HE.out.1 _) ?_) | (guard_target =~ wpList _ _ _ ({ dst := some 70, .. } :: _) _ _; refine wpList_eqlG (by kernel_rfl) 33 33 (.tmp 68) (.tmp 69) rfl (.agg Y.toArray) (.agg Y.toArray) (by kernel_rfl) (by kernel_rfl) (.bool true) (guard33 _ _ _ _ _) (HE.out.2 _) ?_))
  go_ret
  exact ⟨rfl, T5.then_no t9⟩
end Go.Proofs.Ytpfjllkmaogafaa
