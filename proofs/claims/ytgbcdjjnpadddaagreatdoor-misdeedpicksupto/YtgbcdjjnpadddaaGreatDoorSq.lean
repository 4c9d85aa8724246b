/- Texts in one. -/
import Derived.Test.YtgbcdjjnpadddaaGreatDoorS5
import Derived.Lib.ConvBytes
import Derived.Laws.ResultCell
/- sealOf: the seal of an address and a message. -/
namespace Go.Proofs.YtgbcdjjnpadddaaGreatDoor
open Go.RowKit Go.Maps Go.MuLone
set_option linter.unusedVariables false

theorem row_bs {W : World} {g : Nat} {X : List UInt8} {e : TypeId} (h : Row W g (X.map bv).toArray e) (hx : X.length ≤ maxLen) : Bs W (.slice (some ⟨g, 0, none⟩) X.length X.length) X :=
  Or.inr ⟨_, _, rfl, Nat.le_refl _, hx, fun j u hu => by
    have := h.cell j (bv u) (by simp [hu])
    simpa [Addr.add_lit] using this⟩

theorem Bs.after {S : Nat → Prop} {w w' : World} {v : Value} {bs : List UInt8} (h : Bs w v bs) (t : Turn S w w') (hn : ∀ g, g < w.heap.size → v.ownBlock = some g → ¬ S g) : Bs w' v bs := by
  by_cases hB : bs = []
  · subst hB
    rcases h with ⟨e, _⟩ | ⟨A, C, e, h1, h2, h3⟩
    · exact Or.inl ⟨e, rfl⟩
    · exact Or.inr ⟨A, C, e, h1, h2, fun j u hu => by simp at hu⟩
  · exact h.turn t (fun g hg => hn g (h.old hB g hg) hg)

/-- The address' eight bytes, the highest first. -/
def adAt (a : UInt64) (k : Nat) : UInt8 := byteOf ((a.toNat : Int) / 2 ^ (56 - 8 * k))
def adE (a : UInt64) : List UInt8 := (List.range 8).map (adAt a)
theorem adE_len (a : UInt64) : (adE a).length = 8 := by simp [adE]
/-- The seal, as bytes and as a value. -/
def sealB (a : UInt64) (bs : List UInt8) : List UInt8 := (hashOf (adE a ++ bs)).take 16
def sealV (a : UInt64) (bs : List UInt8) : Array Value := ((sealB a bs).map bv).toArray
theorem sealB_len (a : UInt64) (bs : List UInt8) : (sealB a bs).length = 16 := by simp [sealB, hashOf_len]
theorem sealV_size (a : UInt64) (bs : List UInt8) : (sealV a bs).size = 16 := by simp [sealV, sealB_len]
theorem sealV_one (a : UInt64) (bs : List UInt8) : (sealV a bs).all (·.oneCell') = true := by simp [sealV, bv, Value.oneCell']
theorem size33 : (Tryz.prog.info? 48).map (·.size) = some 16 := by kernel_rfl

theorem wp_copy_run {P : Program} {o : Oper} {a : Act} {w : World} {K : Act → World → Prop} {Q : Exit → Act → World → Prop} (s x : Operand) {t tx : TypeId}
    (ho : o.op = .call { callee := .builtin .copy, args := #[s, x], argTypes := #[t, tx] }) (v xv : Value) (hs : a.eval s = v) (hx : a.eval x = xv) {v' : Value} {w' : World}
    (hr : (Builtin.copy_ #[t, tx] o.type #[v, xv]).run P w = .ok v' w') (h : K (a.put o.dst v') w') : Oper.wp P o a w K Q := by
  unfold Oper.wp execOp
  simp only [ho, resolve, invoke, builtin, Sem.run_bind, Sem.run_pure, Result.andThen_ok, List.map_toArray, List.map_cons, List.map_nil, hs, hx, hr]
  exact h
theorem over_all (cur : Array Value) (l : List Value) (h : l.length = cur.size) : over cur 0 l = l.toArray := by
  unfold over
  apply Array.ext'
  simp [h]

set_option maxRecDepth 100000 in
set_option maxHeartbeats 4000000 in
theorem sealOf31 (w : World) (a : UInt64) (va : Value) (bs : List UInt8) (hb : Bs w va bs) (hl : Laid1 w) (h2 : 3 ≤ w.heap.size) (hsz : bs.length ≤ 1099511627776) :
    Calls Tryz.prog 86 #[.int .u64 a.toNat, va] w fun e w' => e = .returned (.agg (sealV a bs)) ∧ Turn no w w' := by
  have hbN : ∀ W g e (ar : Array Value), ar.size = 8 → (∀ j, j < 8 → ar[j]? = some (bv (adAt a j))) → Row W g ar e → Bs W (.slice (some ⟨g, 0, none⟩) 8 8) (adE a) := fun W g e ar ha hj h => by
    have ear : ar = ((adE a).map bv).toArray := by
      apply Array.ext_getElem?
      intro j
      by_cases hj8 : j < 8
      · rw [hj j hj8]; simp [adE, hj8]
      · rw [Array.getElem?_eq_none (by omega), Array.getElem?_eq_none (by simp [adE]; omega)]
    rw [ear] at h
    have := row_bs h (by rw [adE_len]; simp [maxLen])
    rwa [adE_len] at this
  have hvo := hv_one (adE a ++ bs)
  have hvi := hv_info (adE a ++ bs)
  have hsum := fun W h (H : Hs W h (adE a ++ bs)) (l : Laid1 W) (h2 : 3 ≤ W.heap.size) => sum_made W h (adE a ++ bs) H l h2 (by simp [adE_len]; omega)
  obtain ⟨HL, hHL⟩ : ∃ HL, HL = hashOf (adE a ++ bs) := ⟨_, rfl⟩
  have hHe : hv (adE a ++ bs) = (HL.map bv).toArray := by rw [hHL]; rfl
  have hHl : HL.length = 32 := by rw [hHL, hashOf_len]
  have hSe : sealV a bs = ((HL.take 16).map bv).toArray := by rw [hHL]; rfl
  rw [hHe] at hvo hvi hsum
  rw [hSe]
  clear hHe hSe hHL
  have hBH : ∀ W g e, Row W g (HL.map bv).toArray e → Bs W (.slice (some ⟨g, 0, none⟩) 32 32) HL := fun W g e h => by
    have := row_bs h (by rw [hHl]; simp [maxLen])
    rwa [hHl] at this
  have hHs : (HL.map bv).toArray.size = 32 := by simpa using hHl
  obtain ⟨HV, hHV⟩ : ∃ HV, HV = (HL.map bv).toArray := ⟨_, rfl⟩
  have hSo : ((HL.take 16).map bv).toArray.all (·.oneCell') = true := by
    rw [List.all_toArray]
    exact List.all_eq_true.2 (fun x hx => bv_one (HL.take 16) x hx)
  have hSs : ((HL.take 16).map bv).toArray.size = 16 := by simp [hHl]
  have hSl : ((HL.take 16).map bv).length = 16 := by simp [hHl]
  have hSi : (Tryz.prog.info? 48).map (·.size) = some ((HL.take 16).map bv).toArray.size := by rw [hSs]; exact size33
  have h1632 : min HL.length 16 = 16 := by omega
  rw [← hHV] at hvo hvi hsum hBH hHs
  clear hHV
  obtain ⟨va', vc, hva⟩ := hb.slice
  subst hva
  go_enter Tryz.func86, Tryz.ntmps86
  go_wp2_with fail
  go_loopw [10] (fun c wr => ∃ (k : Nat) (ar : Array Value), k ≤ 8 ∧ c = .int .i64 k ∧ Row wr (w.heap.size + 1) ar 208 ∧ ar.size = 8 ∧ (∀ j, j < k → ar[j]? = some (bv (adAt a j))) ∧ (∃ z, Row wr w.heap.size z 48 ∧ z.size = 16) ∧ Turn no w wr) (fun c _ => 8 - (intOf c).toNat)
  case atStart => exact ⟨0, _, Nat.zero_le _, rfl, Row.newAt _ _ _ _ (by simp), rfl, fun j q => by omega, ⟨_, (Row.new w _ _).alloc _, rfl⟩, ((Turn.refl no w).alloc _).alloc _⟩
  case round =>
    obtain ⟨k, ar, hk, rfl, Rn, has, han, ⟨z, RZ, hzs⟩, T⟩ := hrel
    by_cases hlt : k < 8
    · have hlt' : (k : Int) < 8 := by omega
      have cn := Rn.cell k (ar[k]'(by omega)) (by simp [has, hlt])
      have fn := Rn.frozen k
      have hb8 : (0 : Int) ≤ 56 - 8 * (k : Int) := by omega
      have hb9 : (0 : Int) ≤ 8 * (k : Int) := by omega
      have hnum : bv (adAt a k) = .int .u8 ((a.toNat : Int) / 2 ^ (56 - 8 * k) % 256) := bv_byteOf _
      have htn : (56 - 8 * (k : Int)).toNat = 56 - 8 * k := by omega
      clear hbN
      go_wp2_with fail
      go_roundw
      case rel =>
        refine ⟨k + 1, _, by omega, by go_num, Rn.set k _, by simpa using has, fun j hj => ?_, ⟨z, RZ.other (by show w.heap.size + 1 ≠ w.heap.size; omega) _, hzs⟩, T.setCell (fun q => by have q' : w.heap.size + 1 < w.heap.size := q; omega) _⟩
        by_cases hjk : j = k
        · subst hjk
          rw [Array.getElem?_setIfInBounds_self_of_lt (by omega), hnum]
          done
        · rw [Array.getElem?_setIfInBounds_ne (by omega)]
          exact han j (by omega)
      case measure => simp [intOf]; omega
    · have hlt' : ¬ (k : Int) < 8 := by omega
      have hk8 : k = 8 := by omega
      subst hk8
      have BN := hbN _ _ _ ar has han Rn
      clear han hbN
      have hsN : ∀ W a, (Instr.sliceAt 208 (.pointer (some a)) none none none).run Tryz.prog W = .ok (.slice (some a) 8 8) W := fun W a => by
        rw [run_sliceAt_array_all (P := Tryz.prog) W 208 a (by kernel_rfl)]
        rw [show (sizeOf (Tryz.prog.elem 208)).run Tryz.prog W = .ok 1 W by kernel_rfl, show Tryz.prog.arrayLen 208 = 8 by kernel_rfl]
        simp [slicedAt, Addr.add_zero']
      have hsS : ∀ W a, (Instr.sliceAt 48 (.pointer (some a)) none none none).run Tryz.prog W = .ok (.slice (some a) 16 16) W := fun W a => by
        rw [run_sliceAt_array_all (P := Tryz.prog) W 48 a (by kernel_rfl)]
        rw [show (sizeOf (Tryz.prog.elem 48)).run Tryz.prog W = .ok 1 W by kernel_rfl, show Tryz.prog.arrayLen 48 = 16 by kernel_rfl]
        simp [slicedAt, Addr.add_zero']
      have hsH : ∀ W a, (Instr.sliceAt 26 (.pointer (some a)) none none none).run Tryz.prog W = .ok (.slice (some a) 32 32) W := fun W a => by
        rw [run_sliceAt_array_all (P := Tryz.prog) W 26 a (by kernel_rfl)]
        rw [show (sizeOf (Tryz.prog.elem 26)).run Tryz.prog W = .ok 1 W by kernel_rfl, show Tryz.prog.arrayLen 26 = 32 by kernel_rfl]
        simp [slicedAt, Addr.add_zero']
      have hws := T.size
      have hlt1 : w.heap.size < wr.heap.size := RZ.lt
      go_wp2_with fail
      refine (new_any _).mono ?_
      rintro e w1 ⟨h, rfl, hh, H1, t1⟩
      have BN1 := BN.turn_no t1
      have hw1 : Hs w1 h ([] ++ []) ∧ Laid1 w1 := ⟨H1, (hl.turn T (fun q => q)).turn t1 (fun q => q)⟩
      have hRn := Rn.lt
      have hnb : ∀ g, (Value.slice (some ⟨w.heap.size + 1, 0, none⟩) 8 8).ownBlock = some g → g ≠ h := fun g hg => by
        simp [Value.ownBlock] at hg
        omega
      have hwr := write_made w1 h [] _ (adE a) H1 BN1 (fun _ => hnb) hw1.2 (by omega) (by simp [adE_len])
      go_wp2_with fail
      refine hwr.mono ?_
      rintro e w2 ⟨rfl, H2, t2⟩
      simp only [List.nil_append] at H2
      have Tw2 : Turn (fun k => k = h) w w2 := ((T.then_no t1).of_no).trans t2 (fun _ _ q => q)
      have hb2 := hb.after Tw2 (fun g hg _ q => by omega)
      have hwr2 := write_made w2 h (adE a) _ bs H2 hb2 (fun hne g hg => by have := hb.old hne g hg; omega) (hw1.2.turn t2 (fun q => by omega)) (by omega) (by simp [adE_len]; omega)
      go_wp2_with fail
      refine hwr2.mono ?_
      rintro e w3 ⟨rfl, H3, t3⟩
      have Tw3 : Turn no w w3 := (Tw2.trans t3 (fun _ _ q => q)).mono (fun i hi q => by omega)
      have Twr3 : Turn no wr w3 := ((t1.of_no).trans (t2.trans t3 (fun _ _ q => q)) (fun _ _ q => q)).mono (S := fun k => k = h) (fun i hi q => by omega)
      have RZ3 := RZ.turn Twr3 (fun q => q)
      have hsm := hsum w3 h H3 (hl.turn Tw3 (fun q => q)) (by have := Tw3.size; omega)
      clear hsum hwr hwr2 H1 H2 H3 BN1 BN hb2 hw1 t1 t2 t3 hnb Rn hb
      go_wp2_with fail
      refine hsm.mono ?_
      rintro e w4 ⟨rfl, t4⟩
      have Tw4 := Tw3.then_no t4
      have RZ4 := RZ3.turn t4 (fun q => q)
      go_wp2_with (refine wpList_store_row rfl 26 (.tmp 8) (.tmp 30) rfl w4.heap.size HV rfl rfl 26 _ (heap_alloc_new w4 _) hvi (by rw [hHs]; kernel_rfl) hvo ?_)
      rw [World.setRow_alloc_new]
      have R8 := Row.new w4 HV 26
      have T8 : Turn no w (w4.alloc (.cells HV 26)) := Tw4.alloc _
      have RZ8 := RZ4.alloc (.cells HV 26)
      have hq : (w4.alloc (.cells HV 26)).heap.size = w4.heap.size + 1 := by simp
      have hg8 : w.heap.size < w4.heap.size := RZ4.lt
      generalize w4.alloc (.cells HV 26) = w5 at *
      generalize w4.heap.size = g8 at *
      go_wp2_with fail
      have R9 : ∀ z16, Row (w5.alloc (.cells z16 48)) (g8 + 1) z16 48 := fun z16 => Row.newAt _ _ _ _ hq.symm
      have T9 : ∀ z16, Turn no w5 (w5.alloc (.cells z16 48)) := fun z16 => (Turn.refl no w5).alloc _
      obtain ⟨z16, hz16, hz16s⟩ : ∃ z16 : Array Value, z16 = #[.int .u8 0, .int .u8 0, .int .u8 0, .int .u8 0, .int .u8 0, .int .u8 0, .int .u8 0, .int .u8 0, .int .u8 0, .int .u8 0, .int .u8 0, .int .u8 0, .int .u8 0, .int .u8 0, .int .u8 0, .int .u8 0] ∧ z16.size = 16 := ⟨_, rfl, rfl⟩
      rw [← hz16]
      clear hz16
      have R9' := R9 z16
      have T9' := T9 z16
      clear R9 T9
      generalize w5.alloc (.cells z16 48) = w6 at *
      have R86 := R8.turn T9' (fun q => q)
      have RZ6 := RZ8.turn T9' (fun q => q)
      have T6 := T8.then_no T9'
      obtain ⟨w7, hcp, R97, t7⟩ := run_copy_over w6.drew 3 (g8 + 1) 0 16 16 _ HL z16 48 R9' (hBH _ _ _ R86.drew) (by rw [h1632]; omega)
      rw [h1632] at hcp R97
      rw [over_all _ _ (by rw [hSl]; exact hz16s.symm)] at R97
      have T7 : Turn no w w7 := (T6.drew.of_no.trans t7 (fun _ _ q => q)).mono (S := fun k => k = g8 + 1) (fun i hi q => by omega)
      have RZ7 := RZ6.drew.turn t7 (fun q => by omega)
      have S7 : Turn (fun k => k = g8 + 1) w6 w7 := ((Turn.refl no w6).drew.of_no).trans t7 (fun _ _ q => q)
      refine wp_region_held_drew (S := fun W => Turn (fun k => k = g8 + 1) w6 W) (by kernel_rfl) (Turn.refl _ w6).drew (fun hHeld => ?_)
      refine' wpAnyH_take (i := 0) (v := .slice (some ⟨g8 + 1, 0, none⟩) 16 16) rfl (by kernel_rfl) (by kernel_rfl) (by kernel_rfl) (fun _ _ _ h => h) (Or.inl ⟨by rfl, fun W hW => ?y1⟩) hHeld ?r1
      · go_simp
      refine' wpAnyH_take (i := 1) (v := .slice (some ⟨g8, 0, none⟩) 32 32) rfl (by kernel_rfl) (by kernel_rfl) (by kernel_rfl) (fun _ _ _ h => h) (Or.inl ⟨by rfl, fun W hW => ?y2⟩) hHeld ?r2
      · go_simp
      refine wpAnyH_ready (rs := [2]) (by kernel_rfl) (by simp) ?_
      refine AllReadyH.cons rfl (fun K hK => ?_) AllReadyH.nil
      rw [if_pos (by rfl)]
      refine wp_copy_run _ _ rfl _ _ rfl rfl hcp ?_
      refine hK.out _ _ S7 (fun hHeld => ?_)
      clear hK
      refine wpAnyH_done (by kernel_rfl) ?_ _
      generalize hSV : ((HL.take 16).map bv).toArray = SV at *
      go_wp2_with (first | (refine wpList_load_row rfl 48 (.tmp 9) rfl (g8 + 1) rfl 48 SV (0, 0) _ R97 Tryz.underlying48 rfl hSi ?_) | (refine wpList_store_row rfl 48 (.tmp 4) (.tmp 34) rfl w.heap.size SV rfl rfl 48 z RZ7 hSi (by omega) hSo ?_))
      have hz' : (w7.setRow w.heap.size SV).heap[w.heap.size]? = some (.cells SV 48 (0, 0)) := setRow_heap _ _ _ _ _ _ RZ7
      refine bodyPost_ret (v := .agg SV) ?_ rfl ⟨by rw [hSV], T7.setRow _ _ (fun q => by omega)⟩
      exact results_cell_row (P := Tryz.prog) Tryz.results86 _ _ w.heap.size 48 SV (0, 0) _ rfl hz' Tryz.underlying48 rfl hSi
end Go.Proofs.YtgbcdjjnpadddaaGreatDoor



/- Sign. -/
namespace Go.Proofs.YtgbcdjjnpadddaaGreatDoor
open Go.RowKit Go.Maps Go.MuLone
set_option linter.unusedVariables false

theorem foldl_bytes : ∀ (l : List UInt8) (s : ByteArray), (l.map fun b => (b.toNat : Int)).foldl (fun r n => r.push (UInt8.ofNat n.toNat)) s = ⟨s.data ++ l.toArray⟩
  | [], s => by simp
  | b :: l, s => by
    rw [List.map_cons, List.foldl_cons, foldl_bytes l]
    simp [ByteArray.push]

/-- A slice of bytes turned into a text. -/
theorem bytes_text {w : World} {v : Value} {bs : List UInt8} (hb : Bs w v bs) : (convert 124 9 v).run Tryz.prog w = .ok (.string ⟨bs.toArray⟩) w := by
  obtain ⟨a, c, hv⟩ := hb.slice
  subst hv
  rw [run_convert_bytes_string w 124 9 5 a bs.length c Tryz.underlying124 Tryz.underlying5 Tryz.underlying9]
  rcases hb with ⟨h, rfl⟩ | ⟨a', c', h, _, _, h3⟩
  · cases h
    simp [Conv.bytesToString]
    rfl
  · cases h
    have hl := run_loadCells_list (P := Tryz.prog) w a' (bs.map bv) (fun j u hu => by
      rw [List.getElem?_map] at hu
      cases hb : bs[j]? with
      | none => rw [hb] at hu; cases hu
      | some b => rw [hb] at hu; cases hu; exact h3 j b hb)
    have e1 : bs.map bv = (bs.map fun b => (b.toNat : Int)).map (Value.int .u8) := by rw [List.map_map]; rfl
    rw [List.length_map, e1] at hl
    rw [run_bytesToString w a' bs.length c (bs.map fun b => (b.toNat : Int)) hl, foldl_bytes]
    simp

theorem results_cell_row_tmp {P : Program} {fn : Func} {p u : Tmp} {ty : TypeId} (h : fn.results = #[.cell p ty, .tmp u]) (tmps : Array Value) (w : World) (g : Nat) (t : TypeId) (cs : Array Value) (fr : Nat × Nat) (d : TypeDesc)
    (hp : tmps.getD p undef = .pointer (some ⟨g, 0, none⟩)) (hg : w.heap[g]? = some (.cells cs t fr))
    (hu : P.underlying ty = some d) (hd : (match d with | .struct _ | .array _ _ => true | _ => false) = true) (hi : (P.info? ty).map (·.size) = some cs.size) :
    (results fn tmps).run P w = .ok (.tuple #[.agg cs, tmps.getD u undef]) w := by
  rw [results_cell_tmp h, hp]
  simp [asAddr, run_loadVar_row w g t ty cs fr d hg hu hd hi, Result.andThen]

theorem Bs.late {S : Nat → Prop} {w w' : World} {v : Value} {bs : List UInt8} (h : Bs w v bs) (t : Turn S w w') (hn : bs ≠ [] → ∀ g, v.ownBlock = some g → ¬ S g) : Bs w' v bs := by
  by_cases hB : bs = []
  · subst hB
    rcases h with ⟨e, _⟩ | ⟨A, C, e, h1, h2, h3⟩
    · exact Or.inl ⟨e, rfl⟩
    · exact Or.inr ⟨A, C, e, h1, h2, fun j u hu => by simp at hu⟩
  · exact h.turn t (hn hB)

set_option maxRecDepth 100000 in
set_option maxHeartbeats 4000000 in
theorem sign12 (w : World) (q p : Nat) (a : UInt64) (va : Value) (bs : List UInt8) (hq : Sg w q p a) (hp0 : w.cell? ⟨p, 0, none⟩ = some (.pointer (some ⟨p, 0, none⟩))) (hb : Bs w va bs) (hl : Laid1 w) (h2 : 3 ≤ w.heap.size) (hlen : bs.length ≤ 1048576)
    (S : Nat → Prop) (N : World → Prop) (hS : ∀ k, S k → k < w.heap.size ∧ k ≠ q ∧ k ≠ 2 ∧ (bs ≠ [] → va.ownBlock ≠ some k)) (hN : ∀ W W', N W → Turn (fun k => k = w.heap.size) W W' → N W')
    (hnote : ∀ W, Turn no w W → Calls Tryz.prog 85 #[.pointer (some ⟨p, 0, none⟩), recV a ⟨bs.toArray⟩] W fun e w' => e = .returned (.tuple #[]) ∧ Turn S W w' ∧ N w') :
    Calls Tryz.prog 54 #[.pointer (some ⟨q, 0, none⟩), va] w fun e w' => e = .returned (.tuple #[.agg (sealV a bs), .int .i64 0]) ∧ Turn S w w' ∧ N w' := by
  obtain ⟨z, hz, hzs⟩ : ∃ z : Array Value, z = #[.int .u8 0, .int .u8 0, .int .u8 0, .int .u8 0, .int .u8 0, .int .u8 0, .int .u8 0, .int .u8 0, .int .u8 0, .int .u8 0, .int .u8 0, .int .u8 0, .int .u8 0, .int .u8 0, .int .u8 0, .int .u8 0] ∧ z.size = 16 := ⟨_, rfl, rfl⟩
  have T0 : Turn no w (w.alloc (.cells z 48)) := (Turn.refl no w).alloc _
  have RZ := Row.new w z 48
  have hm29 := made29 (w.alloc (.cells z 48)) q ((Row.turn hq T0 (fun q => q)).cell 0 _ rfl)
  have hm25 := made25 (w.alloc (.cells z 48)) p (T0.keep hp0 (fun q => q))
  have Q0 : Row (w.alloc (.cells z 48)) q #[.pointer (some ⟨q, 0, none⟩), .pointer (some ⟨p, 0, none⟩), .int .u64 a.toNat] 175 := Row.turn hq T0 (fun q => q)
  have c1 : (w.alloc (.cells z 48)).cell? ⟨q, 1, none⟩ = some (.pointer (some ⟨p, 0, none⟩)) := Q0.cell 1 _ rfl
  have hb0 := hb.turn_no T0
  have hl0 := hl.turn T0 (fun q => q)
  have hsz0 := T0.size
  have hno := hnote
  obtain ⟨va', vc, hva⟩ := hb.slice
  subst hva
  have hle' : ¬ (1048576 : Int) < (bs.length : Int) := by omega
  go_enter Tryz.func54, Tryz.ntmps54
  go_wp2_with fail
  rw [← hz]
  clear hz
  have hg : ∃ d, (w.alloc (.cells z 48)).heap.size = w.heap.size + 1 + d := ⟨0, by simp⟩
  generalize w.alloc (.cells z 48) = w1 at *
  refine hm29.mono ?_
  rintro e w' ⟨rfl, rfl⟩
  go_wp2_with fail
  refine hm25.mono ?_
  rintro e w2 ⟨rfl, rfl⟩
  go_wp2_with fail
  have hSq : ∀ k, k = q → ¬ S k := fun k e h => (hS k h).2.1 e
  have Sb : ∀ W, Turn S w2 W → Bs W (.slice va' bs.length vc) bs := fun W hW => hb0.late hW (fun hne g hg h => (hS g h).2.2.2 hne hg)
  refine wp_region_held_drew (S := fun W => Turn S w2 W) (by kernel_rfl) (Turn.refl _ w2).drew (fun hHeld => ?_)
  refine' wpAnyH_take (i := 0) (v := .pointer (some ⟨q, 0, none⟩)) rfl (by kernel_rfl) (by kernel_rfl) (by kernel_rfl) (fun _ _ _ h => h) (Or.inl ⟨by rfl, fun W hW => ?y1⟩) hHeld ?r1
  · go_simp
  refine' wpAnyH_take (i := 1) (v := .pointer (some ⟨q, 0, none⟩)) rfl (by kernel_rfl) (by kernel_rfl) (by kernel_rfl) (fun _ _ _ h => h) (Or.inl ⟨by rfl, fun W hW => ?y2⟩) hHeld ?r2
  · go_simp
  refine' wpAnyH_take (i := 2) (v := .pointer (some ⟨q, 1, none⟩)) rfl (by kernel_rfl) (by kernel_rfl) (by kernel_rfl) (fun _ _ _ h => h) (Or.inl ⟨by rfl, fun W hW => ?y3⟩) hHeld ?r3
  · go_simp
  refine' wpAnyH_take (i := 3) (v := .pointer (some ⟨p, 0, none⟩)) rfl (by kernel_rfl) (by kernel_rfl) (by kernel_rfl) (fun _ _ _ h => h) (Or.inl ⟨by rfl, fun W hW => ?y4⟩) hHeld ?r4
  · have c : W.cell? ⟨q, 1, none⟩ = some (.pointer (some ⟨p, 0, none⟩)) := (Q0.turn hW (hSq q rfl)).cell 1 _ rfl
    go_simp
  refine' wpAnyH_take (i := 4) (v := .pointer (some ⟨q, 0, none⟩)) rfl (by kernel_rfl) (by kernel_rfl) (by kernel_rfl) (fun _ _ _ h => h) (Or.inl ⟨by rfl, fun W hW => ?y5⟩) hHeld ?r5
  · go_simp
  refine' wpAnyH_take (i := 5) (v := .pointer (some ⟨q, 0, none⟩)) rfl (by kernel_rfl) (by kernel_rfl) (by kernel_rfl) (fun _ _ _ h => h) (Or.inl ⟨by rfl, fun W hW => ?y6⟩) hHeld ?r6
  · go_simp
  refine' wpAnyH_take (i := 6) (v := .pointer (some ⟨q, 2, none⟩)) rfl (by kernel_rfl) (by kernel_rfl) (by kernel_rfl) (fun _ _ _ h => h) (Or.inl ⟨by rfl, fun W hW => ?y7⟩) hHeld ?r7
  · go_simp
  refine' wpAnyH_take (i := 7) (v := .int .u64 a.toNat) rfl (by kernel_rfl) (by kernel_rfl) (by kernel_rfl) (fun _ _ _ h => h) (Or.inl ⟨by rfl, fun W hW => ?y8⟩) hHeld ?r8
  · have c : W.cell? ⟨q, 2, none⟩ = some (.int .u64 a.toNat) := (Q0.turn hW (hSq q rfl)).cell 2 _ rfl
    go_simp
  refine' wpAnyH_take (i := 8) (v := .slice va' bs.length vc) rfl (by kernel_rfl) (by kernel_rfl) (by kernel_rfl) (fun _ _ _ h => h) (Or.inl ⟨by rfl, fun W hW => ?y9⟩) hHeld ?r9
  · go_simp
  refine' wpAnyH_take (i := 9) (v := .string ⟨bs.toArray⟩) rfl (by kernel_rfl) (by kernel_rfl) (by kernel_rfl) (fun _ _ _ h => h) (Or.inl ⟨by rfl, fun W hW => ?y10⟩) hHeld ?r10
  · have c := bytes_text (Sb W hW)
    go_simp
  refine' wpAnyH_take (i := 10) (v := .agg #[.int .u64 a.toNat, .string ⟨bs.toArray⟩]) rfl (by kernel_rfl) (by kernel_rfl) (by kernel_rfl) (fun _ _ _ h => h) (Or.inl ⟨by rfl, fun W hW => ?y11⟩) hHeld ?r11
  · go_simp
  refine wpAnyH_ready (rs := [11]) (by kernel_rfl) (by simp) ?_
  refine AllReadyH.cons rfl (fun K hK => ?_) AllReadyH.nil
  go_simp
  refine (hnote _ T0.drew).mono ?_
  rintro e w3 ⟨rfl, t3, n3⟩
  have t3' : Turn S w2 w3 := ((Turn.refl no w2).drew.of_no).trans t3 (fun _ _ q => q)
  go_wp2_with fail
  refine hK.out _ _ t3' (fun hHeld => ?_)
  clear hK
  refine wpAnyH_done (by kernel_rfl) ?_ _
  have Q3 := Q0.turn t3' (hSq q rfl)
  have c2 : w3.cell? ⟨q, 2, none⟩ = some (.int .u64 a.toNat) := Q3.cell 2 _ rfl
  have RZ3 := RZ.turn t3' (fun h => by have := (hS _ h).1; omega)
  have hse := sealOf31 w3 a _ bs (Sb w3 t3') (hl0.turn t3' (fun h => (hS _ h).2.2.1 rfl)) (by have := t3'.size; omega) (by omega)
  have hSo := sealV_one a bs
  have hSs := sealV_size a bs
  have hSi : (Tryz.prog.info? 48).map (·.size) = some (sealV a bs).size := by rw [hSs]; exact size33
  generalize hSV : sealV a bs = SV at *
  have T3 : Turn S w w3 := (T0.of_no).trans t3' (fun _ _ q => q)
  go_wp2_with fail
  refine hse.mono ?_
  rintro e w4 ⟨rfl, t4⟩
  have RZ4 := RZ3.turn t4 (fun q => q)
  go_wp2_with (refine wpList_store_row rfl 48 (.tmp 4) (.tmp 39) rfl w.heap.size SV rfl rfl 48 z RZ4 hSi (by omega) hSo ?_)
  have hz' : (w4.setRow w.heap.size SV).heap[w.heap.size]? = some (.cells SV 48 (0, 0)) := setRow_heap _ _ _ _ _ _ RZ4
  have hne : N (w4.setRow w.heap.size SV) := hN _ _ n3 ((t4.of_no).setRow _ _ (fun _ => rfl))
  refine bodyPost_ret (v := .tuple #[.agg SV, .int .i64 0]) ?_ rfl ⟨by rw [hSV], (T3.then_no t4).setRow _ _ (fun q => absurd q (by omega)), hne⟩
  exact results_cell_row_tmp (P := Tryz.prog) Tryz.results54 _ _ w.heap.size 48 SV (0, 0) _ rfl hz' Tryz.underlying48 rfl hSi
end Go.Proofs.YtgbcdjjnpadddaaGreatDoor


