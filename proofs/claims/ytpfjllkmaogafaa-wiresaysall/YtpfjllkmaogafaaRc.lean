/- R7, R8, R9, R10 in one. -/
import Derived.Test.YtpfjllkmaogafaaRb
import Derived.Test.YtpfjllkmaogafaaK2
import Derived.Test.YtpfjllkmaogafaaH3
/- Votes: the closures, decode, decodeStatement of the program. -/

namespace Go.Proofs.Ytpfjllkmaogafaa
open Go.RowKit
set_option linter.unusedVariables false

theorem wp_build_l {P : Program} {o : Oper} {a : Act} {w : World} {K : Act → World → Prop} {Q : Exit → Act → World → Prop} (t : TypeId) (parts : List (Nat × Operand)) (ho : o.op = .build t parts.toArray) (ev : List (Nat × Value)) (he : parts.map (fun x => (x.1, a.eval x.2)) = ev) (cells : Array Value)
    (hf : P.built t ev = some cells) (h : K (a.put o.dst (.agg cells)) w) : o.wp P a w K Q := by
  have e : (parts.toArray.map fun (i, x) => (i, a.eval x)).toList = ev := by rw [← he]; simp
  exact wp_build t _ ho (by rw [e, hf]; rfl) (by rw [e, hf]; exact h)
theorem text89t {w0 w : World} {p : Nat} {v : Value} {bs : List UInt8} {i : Nat} {e0 : Int} (hle : bs.length ≤ 140737488355328) (h : Rt w0 w p v bs i e0) : Calls Try.prog 89 #[.pointer (some ⟨p, 0, none⟩), .int .i64 16] w fun e w' => e = .returned (.string ⟨(gT bs i e0 16).1.toArray⟩) ∧ Rt w0 w' p v bs (gT bs i e0 16).2.1 (gT bs i e0 16).2.2 :=
  (text89 h.1 16 (by omega) hle).mono fun e w' ⟨a, b, c⟩ => ⟨a, b, h.2.trans c (fun _ _ q => q)⟩
theorem vote44t {w0 w : World} {p : Nat} {v : Value} {bs : List UInt8} {i : Nat} {e0 : Int} (hle : bs.length ≤ 140737488355328) (h : Rt w0 w p v bs i e0) : Calls Try.prog 44 #[.pointer (some ⟨p, 0, none⟩), .func (.func 90) #[] #[]] w fun e w' => e = .returned (.agg (rdV bs i e0).1.cs.toArray) ∧ Rt w0 w' p v bs (rdV bs i e0).2.1 (rdV bs i e0).2.2 :=
  (vote44 h.1 hle).mono fun e w' ⟨a, b, c⟩ => ⟨a, b, h.2.trans c (fun _ _ q => q)⟩
theorem prop46t {w0 w : World} {p : Nat} {v : Value} {bs : List UInt8} {i : Nat} {e0 : Int} (hle : bs.length ≤ 140737488355328) (h : Rt w0 w p v bs i e0) : Calls Try.prog 46 #[.pointer (some ⟨p, 0, none⟩), .func (.func 90) #[] #[]] w fun e w' => e = .returned (.agg (rdP bs i e0).1.cs.toArray) ∧ Rt w0 w' p v bs (rdP bs i e0).2.1 (rdP bs i e0).2.2 :=
  (prop46 h.1 hle).mono fun e w' ⟨a, b, c⟩ => ⟨a, b, h.2.trans c (fun _ _ q => q)⟩
theorem gT_le (bs : List UInt8) (i : Nat) (e m : Int) (h : i ≤ bs.length) : (gT bs i e m).2.1 ≤ bs.length := by
  unfold gT rbytes
  split
  · obtain ⟨x, j, er, hr, _, h1, h2, _⟩ := rvar_facts bs i h
    rw [hr]
    dsimp only
    split
    · exact h
    · split
      · exact h
      · split
        · exact h
        · split
          · exact h
          · show j + x ≤ _
            omega
  · exact h
theorem ltI {n : Nat} (h : n < 18446744073709551616) : (n : Int) < 18446744073709551616 := by omega
theorem rdV_fits (bs : List UInt8) (i : Nat) (e : Int) (h : i ≤ bs.length) : (rdV bs i e).1.fits := by
  have l1 := gB_le bs i e h
  have l2 := gV_le bs _ (gB bs i e).2.2 l1
  have l3 := gV_le bs _ (gV bs (gB bs i e).2.1 (gB bs i e).2.2).2.2 l2
  exact ⟨rdV_ok bs i e, ⟨Int.natCast_nonneg _, ltI (gV_lt bs _ _ l1)⟩, ⟨Int.natCast_nonneg _, ltI (gV_lt bs _ _ (gR_le bs _ _ 32 l3))⟩, ⟨Int.natCast_nonneg _, ltI (gV_lt bs _ _ (gV_le bs _ _ (gR_le bs _ _ 32 l3)))⟩⟩
theorem stCv_one (ch : ByteArray) (x : Vt) : (stCv ch x).toArray.all (·.oneCell') = true := all_oneCell_toArray (fun u hu => by
  rcases List.mem_cons.1 hu with rfl | hu
  · rfl
  · exact x.one u hu)
theorem stCp_one (ch : ByteArray) (x : Po) : (stCp ch x).toArray.all (·.oneCell') = true := all_oneCell_toArray (fun u hu => by
  rcases List.mem_cons.1 hu with rfl | hu
  · rfl
  · exact x.one u hu)

/-- A statement that is read. -/
def rdSv (bs : List UInt8) (i : Nat) (e : Int) : ByteArray × Vt × Nat × Int :=
  let k := gB bs i e
  let t := gT bs k.2.1 k.2.2 16
  let x := rdV bs t.2.1 t.2.2
  (⟨t.1.toArray⟩, x.1, x.2.1, x.2.2)
set_option maxRecDepth 100000 in
set_option maxHeartbeats 2000000 in
theorem clo85 (w : World) (ch : ByteArray) (x : Vt) (ho : x.fits) (b : Nat) (hb : w.cell? ⟨b, 0, none⟩ = some (.func (.func 30) #[] #[])) : Calls Try.prog 85 #[.agg (stCv ch x).toArray, .pointer (some ⟨b, 0, none⟩)] w fun e w' => e = .returned (.int .i64 (plainSv ch x)) ∧ Turn no w w' := by
  obtain ⟨_, _, cr⟩ := (Row.new w (stCv ch x).toArray 72).stv
  have hl : (Try.prog.info? 72).map (·.size) = some (stCv ch x).length := by rw [stCv_len ho]; exact size72
  have P := fun W => plainSt64 W ch x ho
  generalize plainSv ch x = pt at *
  generalize stCv ch x = D at *
  have t0 : Turn no w (w.alloc (.cells D.toArray 72)) := (Turn.refl no w).alloc _
  have hb' := t0.keep hb (fun q => q)
  go_enter Try.func85, Try.ntmps85
  go_wp2_with (first | (guard_target =~ wpList _ _ _ ({ dst := _, op := Op.load 72 _, .. } :: _) _ _; refine wpList_load_mid rfl 72 (.tmp 2) rfl w.heap.size 0 rfl D _ cr Try.underlying72 rfl hl ?_) | (go_at_call 64; refine (P _).mono ?_; rintro e w2 ⟨rfl, t2⟩))
  go_ret
  exact ⟨rfl, t0.then_no t2⟩
set_option maxRecDepth 100000 in
set_option maxHeartbeats 2000000 in
theorem clo87 {w : World} {p : Nat} {v : Value} {bs : List UInt8} {i : Nat} {e0 : Int} (h : Rd w p v bs i e0) (hle : bs.length ≤ 140737488355328) (cb : Nat) (hc : w.cell? ⟨cb, 0, none⟩ = some (.func (.func 44) #[] #[])) (hcb : cb ≠ p) :
    Calls Try.prog 87 #[.pointer (some ⟨p, 0, none⟩), .pointer (some ⟨cb, 0, none⟩)] w fun e w' => e = .returned (.agg (stCv (rdSv bs i e0).1 (rdSv bs i e0).2.1).toArray) ∧ Rd w' p v bs (rdSv bs i e0).2.2.1 (rdSv bs i e0).2.2.2 ∧ Turn (fun k => k = p) w w' := by
  have hlt := h.lt
  have hown : ∀ b, v.ownBlock = some b → b < w.heap.size := fun b q => h.own.lt q
  have hcl : cb < w.heap.size := World.block_lt_of_cell? w _ hc
  have C1 := fun w0 W (k : Rt w0 W p v bs i e0) => byte88t hle k
  simp only [rdSv]
  have l1 := gB_le bs i e0 h.le
  generalize gB bs i e0 = a at *
  obtain ⟨a1, a2, a3⟩ := a
  dsimp only at *
  have C2 := fun w0 W (k : Rt w0 W p v bs a2 a3) => text89t hle k
  have l2 := gT_le bs a2 a3 16 l1
  generalize gT bs a2 a3 16 = t at *
  obtain ⟨t1, t2, t3⟩ := t
  dsimp only at *
  have C3 := fun w0 W (k : Rt w0 W p v bs t2 t3) => vote44t hle k
  have hok := rdV_fits bs t2 t3 l2
  generalize rdV bs t2 t3 = r at *
  obtain ⟨x, r2, r3⟩ := r
  dsimp only at *
  generalize (⟨t1.toArray⟩ : ByteArray) = ch at *
  have hB := built72 ch x.cs (Vt.len hok.1)
  have hl : (stCv ch x).toArray.size = 54 := by simpa using stCv_len (ch := ch) hok
  have ho := stCv_one ch x
  have hSi : (Try.prog.info? 72).map (·.size) = some (stCv ch x).toArray.size := by rw [hl]; exact size72
  have hB : Try.prog.built 72 [(0, .string ch), (1, .agg x.cs.toArray)] = some (stCv ch x).toArray := hB
  generalize (stCv ch x).toArray = VV at *
  generalize x.cs.toArray = XX at *
  clear hok
  go_enter Try.func87, Try.ntmps87
  go_upto_region 1 with fail
  obtain ⟨Z, hZ, hZs⟩ : ∃ Z : Array Value, Z = #[.string ⟨#[]⟩, .int .i64 0, .int .u64 0, .int .i64 0, .int .u8 0, .int .u8 0, .int .u8 0, .int .u8 0, .int .u8 0, .int .u8 0, .int .u8 0, .int .u8 0, .int .u8 0, .int .u8 0, .int .u8 0, .int .u8 0, .int .u8 0, .int .u8 0, .int .u8 0, .int .u8 0, .int .u8 0, .int .u8 0, .int .u8 0, .int .u8 0, .int .u8 0, .int .u8 0, .int .u8 0, .int .u8 0, .int .u8 0, .int .u8 0, .int .u8 0, .int .u8 0, .int .u8 0, .int .u8 0, .int .u8 0, .int .u8 0, .int .u64 0, .int .u64 0, .int .u8 0, .int .u8 0, .int .u8 0, .int .u8 0, .int .u8 0, .int .u8 0, .int .u8 0, .int .u8 0, .int .u8 0, .int .u8 0, .int .u8 0, .int .u8 0, .int .u8 0, .int .u8 0, .int .u8 0, .int .u8 0] ∧ Z.size = 54 := ⟨_, rfl, rfl⟩
  rw [← hZ]
  clear hZ
  have hA := Row.new w Z 72
  have T1 : Turn no w (w.alloc (.cells Z 72)) := (Turn.refl no w).alloc _
  have K0 : Rt (w.alloc (.cells Z 72)) (w.alloc (.cells Z 72)) p v bs i e0 := ⟨h.turn_no T1, Turn.refl _ _⟩
  have hc1 := T1.keep hc (fun q => q)
  have hs1 : (w.alloc (.cells Z 72)).heap.size = w.heap.size + 1 := by simp
  generalize w.alloc (.cells Z 72) = w1 at *
  generalize hg : w.heap.size = g at *
  go_upto_region 2 with (go_at_call 88; refine Calls.mono (C1 _ _ K0) ?_; rintro e w2 ⟨rfl, K1⟩)
  have hs2 := K1.2.size
  have hA2 := hA.turn K1.2 (fun q => by omega)
  have hc2 := K1.2.keep hc1 (fun q => hcb q)
  have T2 : Turn (fun k => k = p) w w2 := T1.of_no.trans K1.2 (fun _ _ q => q)
  have R2 := K1.1
  clear C1 K0 K1 hA hc1 T1 hc
  have HC := shutX (And.intro C2 C3)
  clear C2 C3
  refine wp_region_held_drew (S := fun W => Turn (fun k => k = p ∨ k = g) w2 W) (by kernel_rfl) (Turn.refl _ w2).drew (fun hHeld => ?_)
  refine' wpAnyH_take (i := 0) (v := .pointer (some ⟨p, 0, none⟩)) rfl (by kernel_rfl) (by kernel_rfl) (by kernel_rfl) (fun _ _ _ h => h) (Or.inl ⟨by kernel_rfl, fun W hW => ?y1⟩) hHeld ?r1
  · go_simp
  refine' wpAnyH_take (i := 2) (v := .func (.func 44) #[] #[]) rfl (by kernel_rfl) (by kernel_rfl) (by kernel_rfl) (fun _ _ _ h => h) (Or.inl ⟨by kernel_rfl, fun W hW => ?y2⟩) hHeld ?r2
  · have hq := hW.keep hc2 (fun q => by rcases q with q | q <;> (dsimp only at q; omega))
    go_simp
  refine' wpAnyH_take (i := 3) (v := .pointer (some ⟨p, 0, none⟩)) rfl (by kernel_rfl) (by kernel_rfl) (by kernel_rfl) (fun _ _ _ h => h) (Or.inl ⟨by kernel_rfl, fun W hW => ?y3⟩) hHeld ?r3
  · go_simp
  refine wpAnyH_ready (rs := [1]) (by kernel_rfl) (by simp) ?_
  refine AllReadyH.cons rfl (fun K hK => ?_) AllReadyH.nil
  go_simp
  refine (HC.out.1 _ _ ⟨R2.turn_no (Turn.refl no w2).drew, Turn.refl _ _⟩).mono ?_
  rintro e w4 ⟨rfl, K4⟩
  have t4 : Turn (fun k => k = p) w2 w4 := ((Turn.refl no w2).drew.of_no).trans K4.2 (fun _ _ q => q)
  refine hK.out _ _ (t4.mono (fun _ _ q => .inl q)) (fun hHeld => ?_)
  clear hK
  refine wpAnyH_ready (rs := [4]) (by kernel_rfl) (by simp) ?_
  refine AllReadyH.cons rfl (fun K hK => ?_) AllReadyH.nil
  go_simp
  refine (HC.out.2 _ _ K4).mono ?_
  rintro e w5 ⟨rfl, K5⟩
  have t5 : Turn (fun k => k = p) w2 w5 := ((Turn.refl no w2).drew.of_no).trans K5.2 (fun _ _ q => q)
  have hA5 := hA2.turn t5 (fun q => by omega)
  have T5 : Turn (fun k => k = p) w w5 := T2.trans t5 (fun _ _ q => q)
  have S5 : Turn (fun k => k = p ∨ k = g) w2 w5 := t5.mono (fun _ _ q => .inl q)
  have S6 : Turn (fun k => k = p ∨ k = g) w2 (w5.setRow g VV) := S5.setRow g VV (fun _ => .inr rfl)
  have R5 := K5.1.turn (S := fun k => k = g) ((Turn.refl _ w5).setRow g VV (fun _ => rfl)) (fun k q e => by
    rcases q with q | q
    · omega
    · have := hown _ q; omega)
  have T6 := T5.setRow g VV (fun q => by omega)
  refine hK.out _ _ S5 (fun hHeld => ?_)
  clear hK
  refine wpAnyH_ready (rs := [5]) (by kernel_rfl) (by simp) ?_
  refine AllReadyH.cons rfl (fun K hK => ?_) AllReadyH.nil
  rw [if_pos (by rfl)]
  refine wp_build_l 72 _ rfl _ ?he VV hB ?_
  case he => rfl
  refine hK.out _ _ S5 (fun hHeld => ?_)
  clear hK
  refine wpAnyH_ready (rs := [6]) (by kernel_rfl) (by simp) ?_
  refine AllReadyH.cons rfl (fun K hK => ?_) AllReadyH.nil
  rw [if_pos (by rfl)]
  refine wp_store_row 72 (.tmp 3) (.tmp 11) rfl g VV rfl rfl 72 Z hA5 hSi (by omega) ho ?_
  refine hK.out _ _ S6 (fun hHeld => ?_)
  clear hK
  refine wpAnyH_done (by kernel_rfl) ?_ _
  have hz' : (w5.setRow g VV).heap[g]? = some (.cells VV 72 (0, 0)) := setRow_heap _ _ _ _ _ _ hA5
  go_wp2_with fail
  refine bodyPost_ret (v := .agg VV) ?_ rfl ⟨rfl, R5, T6⟩
  exact results_cell_row (P := Try.prog) Try.results87 _ _ g 72 VV (0, 0) _ rfl hz' Try.underlying72 rfl hSi
end Go.Proofs.Ytpfjllkmaogafaa

/- Proposals: the closures, decode, decodeStatement of the program. -/
namespace Go.Proofs.Ytpfjllkmaogafaa
open Go.RowKit
set_option linter.unusedVariables false

/-- A statement that is read. -/
def rdSp (bs : List UInt8) (i : Nat) (e : Int) : ByteArray × Po × Nat × Int :=
  let k := gB bs i e
  let t := gT bs k.2.1 k.2.2 16
  let x := rdP bs t.2.1 t.2.2
  (⟨t.1.toArray⟩, x.1, x.2.1, x.2.2)
set_option maxRecDepth 100000 in
set_option maxHeartbeats 2000000 in
theorem clo95 (w : World) (ch : ByteArray) (x : Po) (ho : x.ok) (b : Nat) (hb : w.cell? ⟨b, 0, none⟩ = some (.func (.func 33) #[] #[])) : Calls Try.prog 95 #[.agg (stCp ch x).toArray, .pointer (some ⟨b, 0, none⟩)] w fun e w' => e = .returned (.int .i64 (plainSp ch x)) ∧ Turn no w w' := by
  obtain ⟨_, _, cr⟩ := (Row.new w (stCp ch x).toArray 77).stp
  have hl : (Try.prog.info? 77).map (·.size) = some (stCp ch x).length := by rw [stCp_len ho]; exact size77
  have P := fun W => plainSt73 W ch x ho
  generalize plainSp ch x = pt at *
  generalize stCp ch x = D at *
  have t0 : Turn no w (w.alloc (.cells D.toArray 77)) := (Turn.refl no w).alloc _
  have hb' := t0.keep hb (fun q => q)
  go_enter Try.func95, Try.ntmps95
  go_wp2_with (first | (guard_target =~ wpList _ _ _ ({ dst := _, op := Op.load 77 _, .. } :: _) _ _; refine wpList_load_mid rfl 77 (.tmp 2) rfl w.heap.size 0 rfl D _ cr Try.underlying77 rfl hl ?_) | (go_at_call 73; refine (P _).mono ?_; rintro e w2 ⟨rfl, t2⟩))
  go_ret
  exact ⟨rfl, t0.then_no t2⟩
set_option maxRecDepth 100000 in
set_option maxHeartbeats 2000000 in
theorem clo97 {w : World} {p : Nat} {v : Value} {bs : List UInt8} {i : Nat} {e0 : Int} (h : Rd w p v bs i e0) (hle : bs.length ≤ 140737488355328) (cb : Nat) (hc : w.cell? ⟨cb, 0, none⟩ = some (.func (.func 46) #[] #[])) (hcb : cb ≠ p) :
    Calls Try.prog 97 #[.pointer (some ⟨p, 0, none⟩), .pointer (some ⟨cb, 0, none⟩)] w fun e w' => e = .returned (.agg (stCp (rdSp bs i e0).1 (rdSp bs i e0).2.1).toArray) ∧ Rd w' p v bs (rdSp bs i e0).2.2.1 (rdSp bs i e0).2.2.2 ∧ Turn (fun k => k = p) w w' := by
  have hlt := h.lt
  have hown : ∀ b, v.ownBlock = some b → b < w.heap.size := fun b q => h.own.lt q
  have hcl : cb < w.heap.size := World.block_lt_of_cell? w _ hc
  have C1 := fun w0 W (k : Rt w0 W p v bs i e0) => byte88t hle k
  simp only [rdSp]
  have l1 := gB_le bs i e0 h.le
  generalize gB bs i e0 = a at *
  obtain ⟨a1, a2, a3⟩ := a
  dsimp only at *
  have C2 := fun w0 W (k : Rt w0 W p v bs a2 a3) => text89t hle k
  have l2 := gT_le bs a2 a3 16 l1
  generalize gT bs a2 a3 16 = t at *
  obtain ⟨t1, t2, t3⟩ := t
  dsimp only at *
  have C3 := fun w0 W (k : Rt w0 W p v bs t2 t3) => prop46t hle k
  have hok := rdP_ok bs t2 t3 l2
  generalize rdP bs t2 t3 = r at *
  obtain ⟨x, r2, r3⟩ := r
  dsimp only at *
  generalize (⟨t1.toArray⟩ : ByteArray) = ch at *
  have hB := built77 ch x.cs (Po.len hok)
  have hl : (stCp ch x).toArray.size = 53 := by simpa using stCp_len (ch := ch) hok
  have ho := stCp_one ch x
  have hSi : (Try.prog.info? 77).map (·.size) = some (stCp ch x).toArray.size := by rw [hl]; exact size77
  have hB : Try.prog.built 77 [(0, .string ch), (1, .agg x.cs.toArray)] = some (stCp ch x).toArray := hB
  generalize (stCp ch x).toArray = VV at *
  generalize x.cs.toArray = XX at *
  clear hok
  go_enter Try.func97, Try.ntmps97
  go_upto_region 1 with fail
  obtain ⟨Z, hZ, hZs⟩ : ∃ Z : Array Value, Z = #[.string ⟨#[]⟩, .int .u64 0, .int .i64 0, .int .i64 0, .int .u8 0, .int .u8 0, .int .u8 0, .int .u8 0, .int .u8 0, .int .u8 0, .int .u8 0, .int .u8 0, .int .u8 0, .int .u8 0, .int .u8 0, .int .u8 0, .int .u8 0, .int .u8 0, .int .u8 0, .int .u8 0, .int .u8 0, .int .u8 0, .int .u8 0, .int .u8 0, .int .u8 0, .int .u8 0, .int .u8 0, .int .u8 0, .int .u8 0, .int .u8 0, .int .u8 0, .int .u8 0, .int .u8 0, .int .u8 0, .int .u8 0, .int .u8 0, .int .u64 0, .int .u8 0, .int .u8 0, .int .u8 0, .int .u8 0, .int .u8 0, .int .u8 0, .int .u8 0, .int .u8 0, .int .u8 0, .int .u8 0, .int .u8 0, .int .u8 0, .int .u8 0, .int .u8 0, .int .u8 0, .int .u8 0] ∧ Z.size = 53 := ⟨_, rfl, rfl⟩
  rw [← hZ]
  clear hZ
  have hA := Row.new w Z 77
  have T1 : Turn no w (w.alloc (.cells Z 77)) := (Turn.refl no w).alloc _
  have K0 : Rt (w.alloc (.cells Z 77)) (w.alloc (.cells Z 77)) p v bs i e0 := ⟨h.turn_no T1, Turn.refl _ _⟩
  have hc1 := T1.keep hc (fun q => q)
  have hs1 : (w.alloc (.cells Z 77)).heap.size = w.heap.size + 1 := by simp
  generalize w.alloc (.cells Z 77) = w1 at *
  generalize hg : w.heap.size = g at *
  go_upto_region 2 with (go_at_call 88; refine Calls.mono (C1 _ _ K0) ?_; rintro e w2 ⟨rfl, K1⟩)
  have hs2 := K1.2.size
  have hA2 := hA.turn K1.2 (fun q => by omega)
  have hc2 := K1.2.keep hc1 (fun q => hcb q)
  have T2 : Turn (fun k => k = p) w w2 := T1.of_no.trans K1.2 (fun _ _ q => q)
  have R2 := K1.1
  clear C1 K0 K1 hA hc1 T1 hc
  have HC := shutX (And.intro C2 C3)
  clear C2 C3
  refine wp_region_held_drew (S := fun W => Turn (fun k => k = p ∨ k = g) w2 W) (by kernel_rfl) (Turn.refl _ w2).drew (fun hHeld => ?_)
  refine' wpAnyH_take (i := 0) (v := .pointer (some ⟨p, 0, none⟩)) rfl (by kernel_rfl) (by kernel_rfl) (by kernel_rfl) (fun _ _ _ h => h) (Or.inl ⟨by kernel_rfl, fun W hW => ?y1⟩) hHeld ?r1
  · go_simp
  refine' wpAnyH_take (i := 2) (v := .func (.func 46) #[] #[]) rfl (by kernel_rfl) (by kernel_rfl) (by kernel_rfl) (fun _ _ _ h => h) (Or.inl ⟨by kernel_rfl, fun W hW => ?y2⟩) hHeld ?r2
  · have hq := hW.keep hc2 (fun q => by rcases q with q | q <;> (dsimp only at q; omega))
    go_simp
  refine' wpAnyH_take (i := 3) (v := .pointer (some ⟨p, 0, none⟩)) rfl (by kernel_rfl) (by kernel_rfl) (by kernel_rfl) (fun _ _ _ h => h) (Or.inl ⟨by kernel_rfl, fun W hW => ?y3⟩) hHeld ?r3
  · go_simp
  refine wpAnyH_ready (rs := [1]) (by kernel_rfl) (by simp) ?_
  refine AllReadyH.cons rfl (fun K hK => ?_) AllReadyH.nil
  go_simp
  refine (HC.out.1 _ _ ⟨R2.turn_no (Turn.refl no w2).drew, Turn.refl _ _⟩).mono ?_
  rintro e w4 ⟨rfl, K4⟩
  have t4 : Turn (fun k => k = p) w2 w4 := ((Turn.refl no w2).drew.of_no).trans K4.2 (fun _ _ q => q)
  refine hK.out _ _ (t4.mono (fun _ _ q => .inl q)) (fun hHeld => ?_)
  clear hK
  refine wpAnyH_ready (rs := [4]) (by kernel_rfl) (by simp) ?_
  refine AllReadyH.cons rfl (fun K hK => ?_) AllReadyH.nil
  go_simp
  refine (HC.out.2 _ _ K4).mono ?_
  rintro e w5 ⟨rfl, K5⟩
  have t5 : Turn (fun k => k = p) w2 w5 := ((Turn.refl no w2).drew.of_no).trans K5.2 (fun _ _ q => q)
  have hA5 := hA2.turn t5 (fun q => by omega)
  have T5 : Turn (fun k => k = p) w w5 := T2.trans t5 (fun _ _ q => q)
  have S5 : Turn (fun k => k = p ∨ k = g) w2 w5 := t5.mono (fun _ _ q => .inl q)
  have S6 : Turn (fun k => k = p ∨ k = g) w2 (w5.setRow g VV) := S5.setRow g VV (fun _ => .inr rfl)
  have R5 := K5.1.turn (S := fun k => k = g) ((Turn.refl _ w5).setRow g VV (fun _ => rfl)) (fun k q e => by
    rcases q with q | q
    · omega
    · have := hown _ q; omega)
  have T6 := T5.setRow g VV (fun q => by omega)
  refine hK.out _ _ S5 (fun hHeld => ?_)
  clear hK
  refine wpAnyH_ready (rs := [5]) (by kernel_rfl) (by simp) ?_
  refine AllReadyH.cons rfl (fun K hK => ?_) AllReadyH.nil
  rw [if_pos (by rfl)]
  refine wp_build_l 77 _ rfl _ ?he VV hB ?_
  case he => rfl
  refine hK.out _ _ S5 (fun hHeld => ?_)
  clear hK
  refine wpAnyH_ready (rs := [6]) (by kernel_rfl) (by simp) ?_
  refine AllReadyH.cons rfl (fun K hK => ?_) AllReadyH.nil
  rw [if_pos (by rfl)]
  refine wp_store_row 77 (.tmp 3) (.tmp 11) rfl g VV rfl rfl 77 Z hA5 hSi (by omega) ho ?_
  refine hK.out _ _ S6 (fun hHeld => ?_)
  clear hK
  refine wpAnyH_done (by kernel_rfl) ?_ _
  have hz' : (w5.setRow g VV).heap[g]? = some (.cells VV 77 (0, 0)) := setRow_heap _ _ _ _ _ _ hA5
  go_wp2_with fail
  refine bodyPost_ret (v := .agg VV) ?_ rfl ⟨rfl, R5, T6⟩
  exact results_cell_row (P := Try.prog) Try.results97 _ _ g 77 VV (0, 0) _ rfl hz' Try.underlying77 rfl hSi
end Go.Proofs.Ytpfjllkmaogafaa

/- Votes: decode of the program. -/
namespace Go.Proofs.Ytpfjllkmaogafaa
open Go.RowKit
set_option linter.unusedVariables false

def zeroVt : Vt := ⟨0, 0, 0, z32, 0, 0, z16⟩
def zeroPo : Po := ⟨0, 0, 0, z32, 0, z16⟩
theorem results_cell_row_tmp {P : Program} {fn : Func} {p u : Tmp} {ty : TypeId} (h : fn.results = #[.cell p ty, .tmp u]) (tmps : Array Value) (w : World) (g : Nat) (t : TypeId) (cs : Array Value) (fr : Nat × Nat) (d : TypeDesc)
    (hp : tmps.getD p undef = .pointer (some ⟨g, 0, none⟩)) (hg : w.heap[g]? = some (.cells cs t fr))
    (hu : P.underlying ty = some d) (hd : (match d with | .struct _ | .array _ _ => true | _ => false) = true) (hi : (P.info? ty).map (·.size) = some cs.size) :
    (results fn tmps).run P w = .ok (.tuple #[.agg cs, tmps.getD u undef]) w := by
  rw [results_cell_tmp h]
  simp [hp, asAddr, run_loadVar_row w g t ty cs fr d hg hu hd hi]
theorem results_tmp_cell_tmp {P : Program} {fn : Func} {s p u : Tmp} {ty : TypeId} (h : fn.results = #[.tmp s, .cell p ty, .tmp u]) (tmps : Array Value) (w : World) (g : Nat) (t : TypeId) (cs : Array Value) (fr : Nat × Nat) (d : TypeDesc)
    (hp : tmps.getD p undef = .pointer (some ⟨g, 0, none⟩)) (hg : w.heap[g]? = some (.cells cs t fr))
    (hu : P.underlying ty = some d) (hd : (match d with | .struct _ | .array _ _ => true | _ => false) = true) (hi : (P.info? ty).map (·.size) = some cs.size) :
    (results fn tmps).run P w = .ok (.tuple #[tmps.getD s undef, .agg cs, tmps.getD u undef]) w := by
  have hp' : tmps[p]?.getD undef = .pointer (some ⟨g, 0, none⟩) := by simpa using hp
  simp only [results, h]
  simp [hp', asAddr, run_loadVar_row w g t ty cs fr d hg hu hd hi]

/-- What decode answers. -/
def dcV (bs : List UInt8) : ByteArray × Vt × Int :=
  let s := rdSv bs 0 0
  let e := rend bs s.2.2.1 s.2.2.2
  let e2 := if e = 0 then plainSv s.1 s.2.1 else e
  if e2 = 0 then (s.1, s.2.1, 0) else (⟨#[]⟩, zeroVt, e2)
set_option maxRecDepth 100000 in
set_option maxHeartbeats 2000000 in
theorem dec86 (w : World) (v : Value) (bs : List UInt8) (hb : Bs w v bs) (hle : bs.length ≤ 140737488355328) (cb pb : Nat) (hc : w.cell? ⟨cb, 0, none⟩ = some (.func (.func 44) #[] #[])) (hp : w.cell? ⟨pb, 0, none⟩ = some (.func (.func 30) #[] #[])) :
    Calls Try.prog 86 #[v, .func (.func 87) #[] #[.pointer (some ⟨cb, 0, none⟩)], .func (.func 85) #[] #[.pointer (some ⟨pb, 0, none⟩)]] w fun e w' => e = .returned (.tuple #[.agg (stCv (dcV bs).1 (dcV bs).2.1).toArray, .int .i64 (dcV bs).2.2]) ∧ Turn no w w' := by
  have hcl : cb < w.heap.size := World.block_lt_of_cell? w _ hc
  have hpl : pb < w.heap.size := World.block_lt_of_cell? w _ hp
  have C2 := fun W p v' (h : Rd W p v' bs 0 0) (k : W.cell? ⟨cb, 0, none⟩ = some (.func (.func 44) #[] #[])) (n : cb ≠ p) => clo87 h hle cb k n
  have hok : (rdSv bs 0 0).2.1.fits := rdV_fits bs _ _ (gT_le bs _ _ 16 (gB_le bs 0 0 (Nat.zero_le _)))
  simp only [dcV]
  generalize rdSv bs 0 0 = s at *
  obtain ⟨ch, x, j, e1⟩ := s
  dsimp only at *
  have C3 := fun W p v' (h : Rd W p v' bs j e1) => end_any W p v' bs j e1 h
  have C4 := fun W (k : W.cell? ⟨pb, 0, none⟩ = some (.func (.func 30) #[] #[])) => clo85 W ch x hok pb k
  generalize rend bs j e1 = er at *
  have hl : (stCv ch x).toArray.size = 54 := by simpa using stCv_len (ch := ch) hok
  have ho := stCv_one ch x
  have hSi : (Try.prog.info? 72).map (·.size) = some (stCv ch x).toArray.size := by rw [hl]; exact size72
  have hzl : (stCv ⟨#[]⟩ zeroVt).toArray.size = 54 := rfl
  have hzo := stCv_one ⟨#[]⟩ zeroVt
  have hzi : (Try.prog.info? 72).map (·.size) = some (stCv ⟨#[]⟩ zeroVt).toArray.size := by rw [hzl]; exact size72
  generalize plainSv ch x = pe at *
  generalize hZq : (stCv ⟨#[]⟩ zeroVt).toArray = Z at *
  by_cases he : er = 0
  · subst he
    rw [if_pos rfl]
    have D5 := C4
    by_cases hq : pe = 0
    · subst hq
      rw [if_pos rfl]
      generalize (stCv ch x).toArray = VV at *
      go_enter Try.func86, Try.ntmps86
      go_upto_region 1 with fail
      obtain ⟨Z1, hZ1, hZe⟩ : ∃ Z1 : Array Value, Z1 = #[.string ⟨#[]⟩, .int .i64 0, .int .u64 0, .int .i64 0, .int .u8 0, .int .u8 0, .int .u8 0, .int .u8 0, .int .u8 0, .int .u8 0, .int .u8 0, .int .u8 0, .int .u8 0, .int .u8 0, .int .u8 0, .int .u8 0, .int .u8 0, .int .u8 0, .int .u8 0, .int .u8 0, .int .u8 0, .int .u8 0, .int .u8 0, .int .u8 0, .int .u8 0, .int .u8 0, .int .u8 0, .int .u8 0, .int .u8 0, .int .u8 0, .int .u8 0, .int .u8 0, .int .u8 0, .int .u8 0, .int .u8 0, .int .u8 0, .int .u64 0, .int .u64 0, .int .u8 0, .int .u8 0, .int .u8 0, .int .u8 0, .int .u8 0, .int .u8 0, .int .u8 0, .int .u8 0, .int .u8 0, .int .u8 0, .int .u8 0, .int .u8 0, .int .u8 0, .int .u8 0, .int .u8 0, .int .u8 0] ∧ Z1 = (stCv ⟨#[]⟩ zeroVt).toArray := ⟨_, rfl, rfl⟩
      rw [← hZ1, hZe, hZq]
      clear hZ1 hZe Z1
      have hA := Row.new w Z 72
      have T1 : Turn no w (w.alloc (.cells Z 72)) := (Turn.refl no w).alloc _
      generalize w.alloc (.cells Z 72) = w1 at *
      have hb1 := hb.turn_no T1
      have hs1 := T1.size
      have hA1 := hA.lt
      obtain ⟨va, vc, hve⟩ := hb.slice
      subst hve
      generalize hg : w.heap.size = g at *
      go_upto_region 2 with (go_at_call 116; refine (newReader_any _ _ bs hb1 hle).mono ?_; rintro e w2 ⟨p, v', rfl, R2, n2, t2⟩)
      have hpg := n2 p (.inl rfl)
      have T2 := T1.then_no t2
      have D2 := C2 w2 p v' R2 (T2.keep hc (fun q => q)) (by omega)
      clear C2
      go_upto_region 3 with (first | (go_at_call 87; refine D2.mono ?_; rintro e w3 ⟨rfl, R3, t3⟩) | (guard_target =~ wpList _ _ _ ({ dst := _, op := Op.store 72 _ _, .. } :: _) _ _; refine wpList_store_row rfl 72 (.tmp 9) (.tmp 16) rfl w3.heap.size VV rfl rfl 72 _ (heap_alloc_new w3 _) hSi (by rw [hl]; rfl) ho ?_))
      rw [World.setRow_alloc_new]
      have T3 : Turn no w w3 := (T2.of_no.trans t3 (S := fun k => k = p) (fun _ _ q => q)).mono (fun i hi q => by omega)
      have A3 := (hA.turn t2 (fun q => q)).turn t3 (fun q => by omega)
      have hA3 := A3.lt
      have V4 := Row.new w3 VV 72
      have A4 := A3.alloc (.cells VV 72)
      have T4 := T3.alloc (.cells VV 72)
      have R4 := R3.turn_no ((Turn.refl no w3).alloc (.cells VV 72))
      have hs4 : (w3.alloc (.cells VV 72)).heap.size = w3.heap.size + 1 := by simp
      generalize w3.alloc (.cells VV 72) = w4 at *
      generalize w3.heap.size = gv at *
      have D3 := C3 w4 p v' R4
      clear C3 D2 R2 R3 R4 t2 t3 A3 T1 T2 T3 hA hb hb1 n2
      go_upto_region 4 with (go_at_call 117; refine D3.mono ?_; rintro e w5 ⟨rfl, n5, rfl⟩)
      clear D3
      have V5 := V4.drewN n5
      have A5 := A4.drewN n5
      have T5 := T4.drewN n5
      have hs5 : (w4.drewN n5).heap.size = gv + 1 := hs4
      generalize w4.drewN n5 = w5 at *
      clear V4 A4 T4 hs4
      go_upto_region 6 with (first | (guard_target =~ wpList _ _ _ ({ dst := _, op := Op.load 72 _, .. } :: _) _ _; refine wpList_load_row rfl 72 (.tmp 9) rfl gv rfl 72 VV (0, 0) _ V5 Try.underlying72 rfl hSi ?_) | (go_at_call 85; refine (D5 _ (T5.keep hp (fun q => q))).mono ?_; rintro e w6 ⟨rfl, t6⟩))
      have V6 := V5.turn t6 (fun q => q)
      have A6 := A5.turn t6 (fun q => q)
      have T6 := T5.then_no t6
      have hs6 := t6.size
      clear V5 A5 T5 D5 C4 t6
      go_wp2_with (first | (guard_target =~ wpList _ _ _ ({ dst := _, op := Op.load 72 _, .. } :: _) _ _; refine wpList_load_row rfl 72 (.tmp 9) rfl gv rfl 72 VV (0, 0) _ V6 Try.underlying72 rfl hSi ?_) | (guard_target =~ wpList _ _ _ ({ dst := _, op := Op.store 72 _ _, .. } :: _) _ _; refine wpList_store_row rfl 72 (.tmp 6) (.tmp 28) rfl g VV rfl rfl 72 Z A6 hSi (by omega) ho ?_))
      have hz' : (w6.setRow g VV).heap[g]? = some (.cells VV 72 (0, 0)) := setRow_heap _ _ _ _ _ _ A6
      refine bodyPost_ret (v := .tuple #[.agg VV, .int .i64 0]) ?_ rfl ⟨rfl, T6.setRow _ _ (fun q => by omega)⟩
      exact results_cell_row_tmp (P := Try.prog) Try.results86 _ _ g 72 VV (0, 0) _ rfl hz' Try.underlying72 rfl hSi
    · rw [if_neg hq]
      dsimp only
      rw [hZq]
      have hq1 : (pe == 0) = false := by simpa using hq
      have hq2 : (pe != 0) = true := by simpa using hq
      generalize (stCv ch x).toArray = VV at *
      go_enter Try.func86, Try.ntmps86
      go_upto_region 1 with fail
      obtain ⟨Z1, hZ1, hZe⟩ : ∃ Z1 : Array Value, Z1 = #[.string ⟨#[]⟩, .int .i64 0, .int .u64 0, .int .i64 0, .int .u8 0, .int .u8 0, .int .u8 0, .int .u8 0, .int .u8 0, .int .u8 0, .int .u8 0, .int .u8 0, .int .u8 0, .int .u8 0, .int .u8 0, .int .u8 0, .int .u8 0, .int .u8 0, .int .u8 0, .int .u8 0, .int .u8 0, .int .u8 0, .int .u8 0, .int .u8 0, .int .u8 0, .int .u8 0, .int .u8 0, .int .u8 0, .int .u8 0, .int .u8 0, .int .u8 0, .int .u8 0, .int .u8 0, .int .u8 0, .int .u8 0, .int .u8 0, .int .u64 0, .int .u64 0, .int .u8 0, .int .u8 0, .int .u8 0, .int .u8 0, .int .u8 0, .int .u8 0, .int .u8 0, .int .u8 0, .int .u8 0, .int .u8 0, .int .u8 0, .int .u8 0, .int .u8 0, .int .u8 0, .int .u8 0, .int .u8 0] ∧ Z1 = (stCv ⟨#[]⟩ zeroVt).toArray := ⟨_, rfl, rfl⟩
      rw [← hZ1, hZe, hZq]
      clear hZ1 hZe Z1
      have hA := Row.new w Z 72
      have T1 : Turn no w (w.alloc (.cells Z 72)) := (Turn.refl no w).alloc _
      generalize w.alloc (.cells Z 72) = w1 at *
      have hb1 := hb.turn_no T1
      have hs1 := T1.size
      have hA1 := hA.lt
      obtain ⟨va, vc, hve⟩ := hb.slice
      subst hve
      generalize hg : w.heap.size = g at *
      go_upto_region 2 with (go_at_call 116; refine (newReader_any _ _ bs hb1 hle).mono ?_; rintro e w2 ⟨p, v', rfl, R2, n2, t2⟩)
      have hpg := n2 p (.inl rfl)
      have T2 := T1.then_no t2
      have D2 := C2 w2 p v' R2 (T2.keep hc (fun q => q)) (by omega)
      clear C2
      go_upto_region 3 with (first | (go_at_call 87; refine D2.mono ?_; rintro e w3 ⟨rfl, R3, t3⟩) | (guard_target =~ wpList _ _ _ ({ dst := _, op := Op.store 72 _ _, .. } :: _) _ _; refine wpList_store_row rfl 72 (.tmp 9) (.tmp 16) rfl w3.heap.size VV rfl rfl 72 _ (heap_alloc_new w3 _) hSi (by rw [hl]; rfl) ho ?_))
      rw [World.setRow_alloc_new]
      have T3 : Turn no w w3 := (T2.of_no.trans t3 (S := fun k => k = p) (fun _ _ q => q)).mono (fun i hi q => by omega)
      have A3 := (hA.turn t2 (fun q => q)).turn t3 (fun q => by omega)
      have hA3 := A3.lt
      have V4 := Row.new w3 VV 72
      have A4 := A3.alloc (.cells VV 72)
      have T4 := T3.alloc (.cells VV 72)
      have R4 := R3.turn_no ((Turn.refl no w3).alloc (.cells VV 72))
      have hs4 : (w3.alloc (.cells VV 72)).heap.size = w3.heap.size + 1 := by simp
      generalize w3.alloc (.cells VV 72) = w4 at *
      generalize w3.heap.size = gv at *
      have D3 := C3 w4 p v' R4
      clear C3 D2 R2 R3 R4 t2 t3 A3 T1 T2 T3 hA hb hb1 n2
      go_upto_region 4 with (go_at_call 117; refine D3.mono ?_; rintro e w5 ⟨rfl, n5, rfl⟩)
      clear D3
      have V5 := V4.drewN n5
      have A5 := A4.drewN n5
      have T5 := T4.drewN n5
      have hs5 : (w4.drewN n5).heap.size = gv + 1 := hs4
      generalize w4.drewN n5 = w5 at *
      clear V4 A4 T4 hs4
      go_upto_region 6 with (first | (guard_target =~ wpList _ _ _ ({ dst := _, op := Op.load 72 _, .. } :: _) _ _; refine wpList_load_row rfl 72 (.tmp 9) rfl gv rfl 72 VV (0, 0) _ V5 Try.underlying72 rfl hSi ?_) | (go_at_call 85; refine (D5 _ (T5.keep hp (fun q => q))).mono ?_; rintro e w6 ⟨rfl, t6⟩))
      have V6 := V5.turn t6 (fun q => q)
      have A6 := A5.turn t6 (fun q => q)
      have T6 := T5.then_no t6
      have hs6 := t6.size
      clear V5 A5 T5 D5 C4 t6
      have hz := Row.new w6 Z 72
      have Az := A6.alloc (.cells Z 72)
      have Tz := T6.alloc (.cells Z 72)
      have hne : w6.heap.size ≠ g := by omega
      clear hs6
      generalize hwz : w6.alloc (.cells Z 72) = wz at *
      go_upto_region 8 with fail
      obtain ⟨Z1, hZ1, hZe⟩ : ∃ Z1 : Array Value, Z1 = #[.string ⟨#[]⟩, .int .i64 0, .int .u64 0, .int .i64 0, .int .u8 0, .int .u8 0, .int .u8 0, .int .u8 0, .int .u8 0, .int .u8 0, .int .u8 0, .int .u8 0, .int .u8 0, .int .u8 0, .int .u8 0, .int .u8 0, .int .u8 0, .int .u8 0, .int .u8 0, .int .u8 0, .int .u8 0, .int .u8 0, .int .u8 0, .int .u8 0, .int .u8 0, .int .u8 0, .int .u8 0, .int .u8 0, .int .u8 0, .int .u8 0, .int .u8 0, .int .u8 0, .int .u8 0, .int .u8 0, .int .u8 0, .int .u8 0, .int .u64 0, .int .u64 0, .int .u8 0, .int .u8 0, .int .u8 0, .int .u8 0, .int .u8 0, .int .u8 0, .int .u8 0, .int .u8 0, .int .u8 0, .int .u8 0, .int .u8 0, .int .u8 0, .int .u8 0, .int .u8 0, .int .u8 0, .int .u8 0] ∧ Z1 = (stCv ⟨#[]⟩ zeroVt).toArray := ⟨_, rfl, rfl⟩
      rw [← hZ1, hZe, hZq, hwz]
      clear hZ1 hZe Z1
      go_wp2_with (first | (guard_target =~ wpList _ _ _ ({ dst := _, op := Op.load 72 _, .. } :: _) _ _; refine wpList_load_row rfl 72 (.tmp 11) rfl w6.heap.size rfl 72 Z (0, 0) _ hz Try.underlying72 rfl hzi ?_) | (guard_target =~ wpList _ _ _ ({ dst := _, op := Op.store 72 _ _, .. } :: _) _ _; refine wpList_store_row rfl 72 (.tmp 6) (.tmp 26) rfl g Z rfl rfl 72 Z Az hzi (by omega) hzo ?_))
      have hz' : (wz.setRow g Z).heap[g]? = some (.cells Z 72 (0, 0)) := setRow_heap _ _ _ _ _ _ Az
      refine bodyPost_ret (v := .tuple #[.agg Z, .int .i64 pe]) ?_ rfl ⟨rfl, Tz.setRow _ _ (fun q => by omega)⟩
      exact results_cell_row_tmp (P := Try.prog) Try.results86 _ _ g 72 Z (0, 0) _ rfl hz' Try.underlying72 rfl hzi
  · rw [if_neg he, if_neg he]
    dsimp only
    rw [hZq]
    have hq1 : (er == 0) = false := by simpa using he
    have hq2 : (er != 0) = true := by simpa using he
    generalize (stCv ch x).toArray = VV at *
    go_enter Try.func86, Try.ntmps86
    go_upto_region 1 with fail
    obtain ⟨Z1, hZ1, hZe⟩ : ∃ Z1 : Array Value, Z1 = #[.string ⟨#[]⟩, .int .i64 0, .int .u64 0, .int .i64 0, .int .u8 0, .int .u8 0, .int .u8 0, .int .u8 0, .int .u8 0, .int .u8 0, .int .u8 0, .int .u8 0, .int .u8 0, .int .u8 0, .int .u8 0, .int .u8 0, .int .u8 0, .int .u8 0, .int .u8 0, .int .u8 0, .int .u8 0, .int .u8 0, .int .u8 0, .int .u8 0, .int .u8 0, .int .u8 0, .int .u8 0, .int .u8 0, .int .u8 0, .int .u8 0, .int .u8 0, .int .u8 0, .int .u8 0, .int .u8 0, .int .u8 0, .int .u8 0, .int .u64 0, .int .u64 0, .int .u8 0, .int .u8 0, .int .u8 0, .int .u8 0, .int .u8 0, .int .u8 0, .int .u8 0, .int .u8 0, .int .u8 0, .int .u8 0, .int .u8 0, .int .u8 0, .int .u8 0, .int .u8 0, .int .u8 0, .int .u8 0] ∧ Z1 = (stCv ⟨#[]⟩ zeroVt).toArray := ⟨_, rfl, rfl⟩
    rw [← hZ1, hZe, hZq]
    clear hZ1 hZe Z1
    have hA := Row.new w Z 72
    have T1 : Turn no w (w.alloc (.cells Z 72)) := (Turn.refl no w).alloc _
    generalize w.alloc (.cells Z 72) = w1 at *
    have hb1 := hb.turn_no T1
    have hs1 := T1.size
    have hA1 := hA.lt
    obtain ⟨va, vc, hve⟩ := hb.slice
    subst hve
    generalize hg : w.heap.size = g at *
    go_upto_region 2 with (go_at_call 116; refine (newReader_any _ _ bs hb1 hle).mono ?_; rintro e w2 ⟨p, v', rfl, R2, n2, t2⟩)
    have hpg := n2 p (.inl rfl)
    have T2 := T1.then_no t2
    have D2 := C2 w2 p v' R2 (T2.keep hc (fun q => q)) (by omega)
    clear C2
    go_upto_region 3 with (first | (go_at_call 87; refine D2.mono ?_; rintro e w3 ⟨rfl, R3, t3⟩) | (guard_target =~ wpList _ _ _ ({ dst := _, op := Op.store 72 _ _, .. } :: _) _ _; refine wpList_store_row rfl 72 (.tmp 9) (.tmp 16) rfl w3.heap.size VV rfl rfl 72 _ (heap_alloc_new w3 _) hSi (by rw [hl]; rfl) ho ?_))
    rw [World.setRow_alloc_new]
    have T3 : Turn no w w3 := (T2.of_no.trans t3 (S := fun k => k = p) (fun _ _ q => q)).mono (fun i hi q => by omega)
    have A3 := (hA.turn t2 (fun q => q)).turn t3 (fun q => by omega)
    have hA3 := A3.lt
    have V4 := Row.new w3 VV 72
    have A4 := A3.alloc (.cells VV 72)
    have T4 := T3.alloc (.cells VV 72)
    have R4 := R3.turn_no ((Turn.refl no w3).alloc (.cells VV 72))
    have hs4 : (w3.alloc (.cells VV 72)).heap.size = w3.heap.size + 1 := by simp
    generalize w3.alloc (.cells VV 72) = w4 at *
    generalize w3.heap.size = gv at *
    have D3 := C3 w4 p v' R4
    clear C3 D2 R2 R3 R4 t2 t3 A3 T1 T2 T3 hA hb hb1 n2
    go_upto_region 4 with (go_at_call 117; refine D3.mono ?_; rintro e w5 ⟨rfl, n5, rfl⟩)
    clear D3
    have V5 := V4.drewN n5
    have A5 := A4.drewN n5
    have T5 := T4.drewN n5
    have hs5 : (w4.drewN n5).heap.size = gv + 1 := hs4
    generalize w4.drewN n5 = w5 at *
    clear V4 A4 T4 hs4
    have hz := Row.new w5 Z 72
    have Az := A5.alloc (.cells Z 72)
    have Tz := T5.alloc (.cells Z 72)
    have hne : w5.heap.size ≠ g := by omega
    clear hs5
    generalize hwz : w5.alloc (.cells Z 72) = wz at *
    go_upto_region 8 with fail
    obtain ⟨Z1, hZ1, hZe⟩ : ∃ Z1 : Array Value, Z1 = #[.string ⟨#[]⟩, .int .i64 0, .int .u64 0, .int .i64 0, .int .u8 0, .int .u8 0, .int .u8 0, .int .u8 0, .int .u8 0, .int .u8 0, .int .u8 0, .int .u8 0, .int .u8 0, .int .u8 0, .int .u8 0, .int .u8 0, .int .u8 0, .int .u8 0, .int .u8 0, .int .u8 0, .int .u8 0, .int .u8 0, .int .u8 0, .int .u8 0, .int .u8 0, .int .u8 0, .int .u8 0, .int .u8 0, .int .u8 0, .int .u8 0, .int .u8 0, .int .u8 0, .int .u8 0, .int .u8 0, .int .u8 0, .int .u8 0, .int .u64 0, .int .u64 0, .int .u8 0, .int .u8 0, .int .u8 0, .int .u8 0, .int .u8 0, .int .u8 0, .int .u8 0, .int .u8 0, .int .u8 0, .int .u8 0, .int .u8 0, .int .u8 0, .int .u8 0, .int .u8 0, .int .u8 0, .int .u8 0] ∧ Z1 = (stCv ⟨#[]⟩ zeroVt).toArray := ⟨_, rfl, rfl⟩
    rw [← hZ1, hZe, hZq, hwz]
    clear hZ1 hZe Z1
    go_wp2_with (first | (guard_target =~ wpList _ _ _ ({ dst := _, op := Op.load 72 _, .. } :: _) _ _; refine wpList_load_row rfl 72 (.tmp 11) rfl w5.heap.size rfl 72 Z (0, 0) _ hz Try.underlying72 rfl hzi ?_) | (guard_target =~ wpList _ _ _ ({ dst := _, op := Op.store 72 _ _, .. } :: _) _ _; refine wpList_store_row rfl 72 (.tmp 6) (.tmp 26) rfl g Z rfl rfl 72 Z Az hzi (by omega) hzo ?_))
    have hz' : (wz.setRow g Z).heap[g]? = some (.cells Z 72 (0, 0)) := setRow_heap _ _ _ _ _ _ Az
    refine bodyPost_ret (v := .tuple #[.agg Z, .int .i64 er]) ?_ rfl ⟨rfl, Tz.setRow _ _ (fun q => by omega)⟩
    exact results_cell_row_tmp (P := Try.prog) Try.results86 _ _ g 72 Z (0, 0) _ rfl hz' Try.underlying72 rfl hzi
end Go.Proofs.Ytpfjllkmaogafaa

/- Proposals: decode of the program. -/
namespace Go.Proofs.Ytpfjllkmaogafaa
open Go.RowKit
set_option linter.unusedVariables false

/-- What decode answers. -/
def dcP (bs : List UInt8) : ByteArray × Po × Int :=
  let s := rdSp bs 0 0
  let e := rend bs s.2.2.1 s.2.2.2
  let e2 := if e = 0 then plainSp s.1 s.2.1 else e
  if e2 = 0 then (s.1, s.2.1, 0) else (⟨#[]⟩, zeroPo, e2)
set_option maxRecDepth 100000 in
set_option maxHeartbeats 2000000 in
theorem dec96 (w : World) (v : Value) (bs : List UInt8) (hb : Bs w v bs) (hle : bs.length ≤ 140737488355328) (cb pb : Nat) (hc : w.cell? ⟨cb, 0, none⟩ = some (.func (.func 46) #[] #[])) (hp : w.cell? ⟨pb, 0, none⟩ = some (.func (.func 33) #[] #[])) :
    Calls Try.prog 96 #[v, .func (.func 97) #[] #[.pointer (some ⟨cb, 0, none⟩)], .func (.func 95) #[] #[.pointer (some ⟨pb, 0, none⟩)]] w fun e w' => e = .returned (.tuple #[.agg (stCp (dcP bs).1 (dcP bs).2.1).toArray, .int .i64 (dcP bs).2.2]) ∧ Turn no w w' := by
  have hcl : cb < w.heap.size := World.block_lt_of_cell? w _ hc
  have hpl : pb < w.heap.size := World.block_lt_of_cell? w _ hp
  have C2 := fun W p v' (h : Rd W p v' bs 0 0) (k : W.cell? ⟨cb, 0, none⟩ = some (.func (.func 46) #[] #[])) (n : cb ≠ p) => clo97 h hle cb k n
  have hok : (rdSp bs 0 0).2.1.ok := rdP_ok bs _ _ (gT_le bs _ _ 16 (gB_le bs 0 0 (Nat.zero_le _)))
  simp only [dcP]
  generalize rdSp bs 0 0 = s at *
  obtain ⟨ch, x, j, e1⟩ := s
  dsimp only at *
  have C3 := fun W p v' (h : Rd W p v' bs j e1) => end_any W p v' bs j e1 h
  have C4 := fun W (k : W.cell? ⟨pb, 0, none⟩ = some (.func (.func 33) #[] #[])) => clo95 W ch x hok pb k
  generalize rend bs j e1 = er at *
  have hl : (stCp ch x).toArray.size = 53 := by simpa using stCp_len (ch := ch) hok
  have ho := stCp_one ch x
  have hSi : (Try.prog.info? 77).map (·.size) = some (stCp ch x).toArray.size := by rw [hl]; exact size77
  have hzl : (stCp ⟨#[]⟩ zeroPo).toArray.size = 53 := rfl
  have hzo := stCp_one ⟨#[]⟩ zeroPo
  have hzi : (Try.prog.info? 77).map (·.size) = some (stCp ⟨#[]⟩ zeroPo).toArray.size := by rw [hzl]; exact size77
  generalize plainSp ch x = pe at *
  generalize hZq : (stCp ⟨#[]⟩ zeroPo).toArray = Z at *
  by_cases he : er = 0
  · subst he
    rw [if_pos rfl]
    have D5 := C4
    by_cases hq : pe = 0
    · subst hq
      rw [if_pos rfl]
      generalize (stCp ch x).toArray = VV at *
      go_enter Try.func96, Try.ntmps96
      go_upto_region 1 with fail
      obtain ⟨Z1, hZ1, hZe⟩ : ∃ Z1 : Array Value, Z1 = #[.string ⟨#[]⟩, .int .u64 0, .int .i64 0, .int .i64 0, .int .u8 0, .int .u8 0, .int .u8 0, .int .u8 0, .int .u8 0, .int .u8 0, .int .u8 0, .int .u8 0, .int .u8 0, .int .u8 0, .int .u8 0, .int .u8 0, .int .u8 0, .int .u8 0, .int .u8 0, .int .u8 0, .int .u8 0, .int .u8 0, .int .u8 0, .int .u8 0, .int .u8 0, .int .u8 0, .int .u8 0, .int .u8 0, .int .u8 0, .int .u8 0, .int .u8 0, .int .u8 0, .int .u8 0, .int .u8 0, .int .u8 0, .int .u8 0, .int .u64 0, .int .u8 0, .int .u8 0, .int .u8 0, .int .u8 0, .int .u8 0, .int .u8 0, .int .u8 0, .int .u8 0, .int .u8 0, .int .u8 0, .int .u8 0, .int .u8 0, .int .u8 0, .int .u8 0, .int .u8 0, .int .u8 0] ∧ Z1 = (stCp ⟨#[]⟩ zeroPo).toArray := ⟨_, rfl, rfl⟩
      rw [← hZ1, hZe, hZq]
      clear hZ1 hZe Z1
      have hA := Row.new w Z 77
      have T1 : Turn no w (w.alloc (.cells Z 77)) := (Turn.refl no w).alloc _
      generalize w.alloc (.cells Z 77) = w1 at *
      have hb1 := hb.turn_no T1
      have hs1 := T1.size
      have hA1 := hA.lt
      obtain ⟨va, vc, hve⟩ := hb.slice
      subst hve
      generalize hg : w.heap.size = g at *
      go_upto_region 2 with (go_at_call 116; refine (newReader_any _ _ bs hb1 hle).mono ?_; rintro e w2 ⟨p, v', rfl, R2, n2, t2⟩)
      have hpg := n2 p (.inl rfl)
      have T2 := T1.then_no t2
      have D2 := C2 w2 p v' R2 (T2.keep hc (fun q => q)) (by omega)
      clear C2
      go_upto_region 3 with (first | (go_at_call 97; refine D2.mono ?_; rintro e w3 ⟨rfl, R3, t3⟩) | (guard_target =~ wpList _ _ _ ({ dst := _, op := Op.store 77 _ _, .. } :: _) _ _; refine wpList_store_row rfl 77 (.tmp 9) (.tmp 16) rfl w3.heap.size VV rfl rfl 77 _ (heap_alloc_new w3 _) hSi (by rw [hl]; rfl) ho ?_))
      rw [World.setRow_alloc_new]
      have T3 : Turn no w w3 := (T2.of_no.trans t3 (S := fun k => k = p) (fun _ _ q => q)).mono (fun i hi q => by omega)
      have A3 := (hA.turn t2 (fun q => q)).turn t3 (fun q => by omega)
      have hA3 := A3.lt
      have V4 := Row.new w3 VV 77
      have A4 := A3.alloc (.cells VV 77)
      have T4 := T3.alloc (.cells VV 77)
      have R4 := R3.turn_no ((Turn.refl no w3).alloc (.cells VV 77))
      have hs4 : (w3.alloc (.cells VV 77)).heap.size = w3.heap.size + 1 := by simp
      generalize w3.alloc (.cells VV 77) = w4 at *
      generalize w3.heap.size = gv at *
      have D3 := C3 w4 p v' R4
      clear C3 D2 R2 R3 R4 t2 t3 A3 T1 T2 T3 hA hb hb1 n2
      go_upto_region 4 with (go_at_call 117; refine D3.mono ?_; rintro e w5 ⟨rfl, n5, rfl⟩)
      clear D3
      have V5 := V4.drewN n5
      have A5 := A4.drewN n5
      have T5 := T4.drewN n5
      have hs5 : (w4.drewN n5).heap.size = gv + 1 := hs4
      generalize w4.drewN n5 = w5 at *
      clear V4 A4 T4 hs4
      go_upto_region 6 with (first | (guard_target =~ wpList _ _ _ ({ dst := _, op := Op.load 77 _, .. } :: _) _ _; refine wpList_load_row rfl 77 (.tmp 9) rfl gv rfl 77 VV (0, 0) _ V5 Try.underlying77 rfl hSi ?_) | (go_at_call 95; refine (D5 _ (T5.keep hp (fun q => q))).mono ?_; rintro e w6 ⟨rfl, t6⟩))
      have V6 := V5.turn t6 (fun q => q)
      have A6 := A5.turn t6 (fun q => q)
      have T6 := T5.then_no t6
      have hs6 := t6.size
      clear V5 A5 T5 D5 C4 t6
      go_wp2_with (first | (guard_target =~ wpList _ _ _ ({ dst := _, op := Op.load 77 _, .. } :: _) _ _; refine wpList_load_row rfl 77 (.tmp 9) rfl gv rfl 77 VV (0, 0) _ V6 Try.underlying77 rfl hSi ?_) | (guard_target =~ wpList _ _ _ ({ dst := _, op := Op.store 77 _ _, .. } :: _) _ _; refine wpList_store_row rfl 77 (.tmp 6) (.tmp 28) rfl g VV rfl rfl 77 Z A6 hSi (by omega) ho ?_))
      have hz' : (w6.setRow g VV).heap[g]? = some (.cells VV 77 (0, 0)) := setRow_heap _ _ _ _ _ _ A6
      refine bodyPost_ret (v := .tuple #[.agg VV, .int .i64 0]) ?_ rfl ⟨rfl, T6.setRow _ _ (fun q => by omega)⟩
      exact results_cell_row_tmp (P := Try.prog) Try.results96 _ _ g 77 VV (0, 0) _ rfl hz' Try.underlying77 rfl hSi
    · rw [if_neg hq]
      dsimp only
      rw [hZq]
      have hq1 : (pe == 0) = false := by simpa using hq
      have hq2 : (pe != 0) = true := by simpa using hq
      generalize (stCp ch x).toArray = VV at *
      go_enter Try.func96, Try.ntmps96
      go_upto_region 1 with fail
      obtain ⟨Z1, hZ1, hZe⟩ : ∃ Z1 : Array Value, Z1 = #[.string ⟨#[]⟩, .int .u64 0, .int .i64 0, .int .i64 0, .int .u8 0, .int .u8 0, .int .u8 0, .int .u8 0, .int .u8 0, .int .u8 0, .int .u8 0, .int .u8 0, .int .u8 0, .int .u8 0, .int .u8 0, .int .u8 0, .int .u8 0, .int .u8 0, .int .u8 0, .int .u8 0, .int .u8 0, .int .u8 0, .int .u8 0, .int .u8 0, .int .u8 0, .int .u8 0, .int .u8 0, .int .u8 0, .int .u8 0, .int .u8 0, .int .u8 0, .int .u8 0, .int .u8 0, .int .u8 0, .int .u8 0, .int .u8 0, .int .u64 0, .int .u8 0, .int .u8 0, .int .u8 0, .int .u8 0, .int .u8 0, .int .u8 0, .int .u8 0, .int .u8 0, .int .u8 0, .int .u8 0, .int .u8 0, .int .u8 0, .int .u8 0, .int .u8 0, .int .u8 0, .int .u8 0] ∧ Z1 = (stCp ⟨#[]⟩ zeroPo).toArray := ⟨_, rfl, rfl⟩
      rw [← hZ1, hZe, hZq]
      clear hZ1 hZe Z1
      have hA := Row.new w Z 77
      have T1 : Turn no w (w.alloc (.cells Z 77)) := (Turn.refl no w).alloc _
      generalize w.alloc (.cells Z 77) = w1 at *
      have hb1 := hb.turn_no T1
      have hs1 := T1.size
      have hA1 := hA.lt
      obtain ⟨va, vc, hve⟩ := hb.slice
      subst hve
      generalize hg : w.heap.size = g at *
      go_upto_region 2 with (go_at_call 116; refine (newReader_any _ _ bs hb1 hle).mono ?_; rintro e w2 ⟨p, v', rfl, R2, n2, t2⟩)
      have hpg := n2 p (.inl rfl)
      have T2 := T1.then_no t2
      have D2 := C2 w2 p v' R2 (T2.keep hc (fun q => q)) (by omega)
      clear C2
      go_upto_region 3 with (first | (go_at_call 97; refine D2.mono ?_; rintro e w3 ⟨rfl, R3, t3⟩) | (guard_target =~ wpList _ _ _ ({ dst := _, op := Op.store 77 _ _, .. } :: _) _ _; refine wpList_store_row rfl 77 (.tmp 9) (.tmp 16) rfl w3.heap.size VV rfl rfl 77 _ (heap_alloc_new w3 _) hSi (by rw [hl]; rfl) ho ?_))
      rw [World.setRow_alloc_new]
      have T3 : Turn no w w3 := (T2.of_no.trans t3 (S := fun k => k = p) (fun _ _ q => q)).mono (fun i hi q => by omega)
      have A3 := (hA.turn t2 (fun q => q)).turn t3 (fun q => by omega)
      have hA3 := A3.lt
      have V4 := Row.new w3 VV 77
      have A4 := A3.alloc (.cells VV 77)
      have T4 := T3.alloc (.cells VV 77)
      have R4 := R3.turn_no ((Turn.refl no w3).alloc (.cells VV 77))
      have hs4 : (w3.alloc (.cells VV 77)).heap.size = w3.heap.size + 1 := by simp
      generalize w3.alloc (.cells VV 77) = w4 at *
      generalize w3.heap.size = gv at *
      have D3 := C3 w4 p v' R4
      clear C3 D2 R2 R3 R4 t2 t3 A3 T1 T2 T3 hA hb hb1 n2
      go_upto_region 4 with (go_at_call 117; refine D3.mono ?_; rintro e w5 ⟨rfl, n5, rfl⟩)
      clear D3
      have V5 := V4.drewN n5
      have A5 := A4.drewN n5
      have T5 := T4.drewN n5
      have hs5 : (w4.drewN n5).heap.size = gv + 1 := hs4
      generalize w4.drewN n5 = w5 at *
      clear V4 A4 T4 hs4
      go_upto_region 6 with (first | (guard_target =~ wpList _ _ _ ({ dst := _, op := Op.load 77 _, .. } :: _) _ _; refine wpList_load_row rfl 77 (.tmp 9) rfl gv rfl 77 VV (0, 0) _ V5 Try.underlying77 rfl hSi ?_) | (go_at_call 95; refine (D5 _ (T5.keep hp (fun q => q))).mono ?_; rintro e w6 ⟨rfl, t6⟩))
      have V6 := V5.turn t6 (fun q => q)
      have A6 := A5.turn t6 (fun q => q)
      have T6 := T5.then_no t6
      have hs6 := t6.size
      clear V5 A5 T5 D5 C4 t6
      have hz := Row.new w6 Z 77
      have Az := A6.alloc (.cells Z 77)
      have Tz := T6.alloc (.cells Z 77)
      have hne : w6.heap.size ≠ g := by omega
      clear hs6
      generalize hwz : w6.alloc (.cells Z 77) = wz at *
      go_upto_region 8 with fail
      obtain ⟨Z1, hZ1, hZe⟩ : ∃ Z1 : Array Value, Z1 = #[.string ⟨#[]⟩, .int .u64 0, .int .i64 0, .int .i64 0, .int .u8 0, .int .u8 0, .int .u8 0, .int .u8 0, .int .u8 0, .int .u8 0, .int .u8 0, .int .u8 0, .int .u8 0, .int .u8 0, .int .u8 0, .int .u8 0, .int .u8 0, .int .u8 0, .int .u8 0, .int .u8 0, .int .u8 0, .int .u8 0, .int .u8 0, .int .u8 0, .int .u8 0, .int .u8 0, .int .u8 0, .int .u8 0, .int .u8 0, .int .u8 0, .int .u8 0, .int .u8 0, .int .u8 0, .int .u8 0, .int .u8 0, .int .u8 0, .int .u64 0, .int .u8 0, .int .u8 0, .int .u8 0, .int .u8 0, .int .u8 0, .int .u8 0, .int .u8 0, .int .u8 0, .int .u8 0, .int .u8 0, .int .u8 0, .int .u8 0, .int .u8 0, .int .u8 0, .int .u8 0, .int .u8 0] ∧ Z1 = (stCp ⟨#[]⟩ zeroPo).toArray := ⟨_, rfl, rfl⟩
      rw [← hZ1, hZe, hZq, hwz]
      clear hZ1 hZe Z1
      go_wp2_with (first | (guard_target =~ wpList _ _ _ ({ dst := _, op := Op.load 77 _, .. } :: _) _ _; refine wpList_load_row rfl 77 (.tmp 11) rfl w6.heap.size rfl 77 Z (0, 0) _ hz Try.underlying77 rfl hzi ?_) | (guard_target =~ wpList _ _ _ ({ dst := _, op := Op.store 77 _ _, .. } :: _) _ _; refine wpList_store_row rfl 77 (.tmp 6) (.tmp 26) rfl g Z rfl rfl 77 Z Az hzi (by omega) hzo ?_))
      have hz' : (wz.setRow g Z).heap[g]? = some (.cells Z 77 (0, 0)) := setRow_heap _ _ _ _ _ _ Az
      refine bodyPost_ret (v := .tuple #[.agg Z, .int .i64 pe]) ?_ rfl ⟨rfl, Tz.setRow _ _ (fun q => by omega)⟩
      exact results_cell_row_tmp (P := Try.prog) Try.results96 _ _ g 77 Z (0, 0) _ rfl hz' Try.underlying77 rfl hzi
  · rw [if_neg he, if_neg he]
    dsimp only
    rw [hZq]
    have hq1 : (er == 0) = false := by simpa using he
    have hq2 : (er != 0) = true := by simpa using he
    generalize (stCp ch x).toArray = VV at *
    go_enter Try.func96, Try.ntmps96
    go_upto_region 1 with fail
    obtain ⟨Z1, hZ1, hZe⟩ : ∃ Z1 : Array Value, Z1 = #[.string ⟨#[]⟩, .int .u64 0, .int .i64 0, .int .i64 0, .int .u8 0, .int .u8 0, .int .u8 0, .int .u8 0, .int .u8 0, .int .u8 0, .int .u8 0, .int .u8 0, .int .u8 0, .int .u8 0, .int .u8 0, .int .u8 0, .int .u8 0, .int .u8 0, .int .u8 0, .int .u8 0, .int .u8 0, .int .u8 0, .int .u8 0, .int .u8 0, .int .u8 0, .int .u8 0, .int .u8 0, .int .u8 0, .int .u8 0, .int .u8 0, .int .u8 0, .int .u8 0, .int .u8 0, .int .u8 0, .int .u8 0, .int .u8 0, .int .u64 0, .int .u8 0, .int .u8 0, .int .u8 0, .int .u8 0, .int .u8 0, .int .u8 0, .int .u8 0, .int .u8 0, .int .u8 0, .int .u8 0, .int .u8 0, .int .u8 0, .int .u8 0, .int .u8 0, .int .u8 0, .int .u8 0] ∧ Z1 = (stCp ⟨#[]⟩ zeroPo).toArray := ⟨_, rfl, rfl⟩
    rw [← hZ1, hZe, hZq]
    clear hZ1 hZe Z1
    have hA := Row.new w Z 77
    have T1 : Turn no w (w.alloc (.cells Z 77)) := (Turn.refl no w).alloc _
    generalize w.alloc (.cells Z 77) = w1 at *
    have hb1 := hb.turn_no T1
    have hs1 := T1.size
    have hA1 := hA.lt
    obtain ⟨va, vc, hve⟩ := hb.slice
    subst hve
    generalize hg : w.heap.size = g at *
    go_upto_region 2 with (go_at_call 116; refine (newReader_any _ _ bs hb1 hle).mono ?_; rintro e w2 ⟨p, v', rfl, R2, n2, t2⟩)
    have hpg := n2 p (.inl rfl)
    have T2 := T1.then_no t2
    have D2 := C2 w2 p v' R2 (T2.keep hc (fun q => q)) (by omega)
    clear C2
    go_upto_region 3 with (first | (go_at_call 97; refine D2.mono ?_; rintro e w3 ⟨rfl, R3, t3⟩) | (guard_target =~ wpList _ _ _ ({ dst := _, op := Op.store 77 _ _, .. } :: _) _ _; refine wpList_store_row rfl 77 (.tmp 9) (.tmp 16) rfl w3.heap.size VV rfl rfl 77 _ (heap_alloc_new w3 _) hSi (by rw [hl]; rfl) ho ?_))
    rw [World.setRow_alloc_new]
    have T3 : Turn no w w3 := (T2.of_no.trans t3 (S := fun k => k = p) (fun _ _ q => q)).mono (fun i hi q => by omega)
    have A3 := (hA.turn t2 (fun q => q)).turn t3 (fun q => by omega)
    have hA3 := A3.lt
    have V4 := Row.new w3 VV 77
    have A4 := A3.alloc (.cells VV 77)
    have T4 := T3.alloc (.cells VV 77)
    have R4 := R3.turn_no ((Turn.refl no w3).alloc (.cells VV 77))
    have hs4 : (w3.alloc (.cells VV 77)).heap.size = w3.heap.size + 1 := by simp
    generalize w3.alloc (.cells VV 77) = w4 at *
    generalize w3.heap.size = gv at *
    have D3 := C3 w4 p v' R4
    clear C3 D2 R2 R3 R4 t2 t3 A3 T1 T2 T3 hA hb hb1 n2
    go_upto_region 4 with (go_at_call 117; refine D3.mono ?_; rintro e w5 ⟨rfl, n5, rfl⟩)
    clear D3
    have V5 := V4.drewN n5
    have A5 := A4.drewN n5
    have T5 := T4.drewN n5
    have hs5 : (w4.drewN n5).heap.size = gv + 1 := hs4
    generalize w4.drewN n5 = w5 at *
    clear V4 A4 T4 hs4
    have hz := Row.new w5 Z 77
    have Az := A5.alloc (.cells Z 77)
    have Tz := T5.alloc (.cells Z 77)
    have hne : w5.heap.size ≠ g := by omega
    clear hs5
    generalize hwz : w5.alloc (.cells Z 77) = wz at *
    go_upto_region 8 with fail
    obtain ⟨Z1, hZ1, hZe⟩ : ∃ Z1 : Array Value, Z1 = #[.string ⟨#[]⟩, .int .u64 0, .int .i64 0, .int .i64 0, .int .u8 0, .int .u8 0, .int .u8 0, .int .u8 0, .int .u8 0, .int .u8 0, .int .u8 0, .int .u8 0, .int .u8 0, .int .u8 0, .int .u8 0, .int .u8 0, .int .u8 0, .int .u8 0, .int .u8 0, .int .u8 0, .int .u8 0, .int .u8 0, .int .u8 0, .int .u8 0, .int .u8 0, .int .u8 0, .int .u8 0, .int .u8 0, .int .u8 0, .int .u8 0, .int .u8 0, .int .u8 0, .int .u8 0, .int .u8 0, .int .u8 0, .int .u8 0, .int .u64 0, .int .u8 0, .int .u8 0, .int .u8 0, .int .u8 0, .int .u8 0, .int .u8 0, .int .u8 0, .int .u8 0, .int .u8 0, .int .u8 0, .int .u8 0, .int .u8 0, .int .u8 0, .int .u8 0, .int .u8 0, .int .u8 0] ∧ Z1 = (stCp ⟨#[]⟩ zeroPo).toArray := ⟨_, rfl, rfl⟩
    rw [← hZ1, hZe, hZq, hwz]
    clear hZ1 hZe Z1
    go_wp2_with (first | (guard_target =~ wpList _ _ _ ({ dst := _, op := Op.load 77 _, .. } :: _) _ _; refine wpList_load_row rfl 77 (.tmp 11) rfl w5.heap.size rfl 77 Z (0, 0) _ hz Try.underlying77 rfl hzi ?_) | (guard_target =~ wpList _ _ _ ({ dst := _, op := Op.store 77 _ _, .. } :: _) _ _; refine wpList_store_row rfl 77 (.tmp 6) (.tmp 26) rfl g Z rfl rfl 77 Z Az hzi (by omega) hzo ?_))
    have hz' : (wz.setRow g Z).heap[g]? = some (.cells Z 77 (0, 0)) := setRow_heap _ _ _ _ _ _ Az
    refine bodyPost_ret (v := .tuple #[.agg Z, .int .i64 er]) ?_ rfl ⟨rfl, Tz.setRow _ _ (fun q => by omega)⟩
    exact results_cell_row_tmp (P := Try.prog) Try.results96 _ _ g 77 Z (0, 0) _ rfl hz' Try.underlying77 rfl hzi
end Go.Proofs.Ytpfjllkmaogafaa
