/- Texts in one. -/
import Derived.Test.YtgbcdjjnpadddaaGreatDoorDp
import Derived.ChangeKeysEq
/- The digest of what a mixer has taken (sum). -/
namespace Go.Proofs.YtgbcdjjnpadddaaGreatDoor
open Go.RowKit
set_option linter.unusedVariables false

def byteOf (v : Int) : UInt8 := UInt8.ofNat (v % 256).toNat
theorem byteOf_val (v : Int) : ((byteOf v).toNat : Int) = v % 256 := by
  unfold byteOf
  simp
  omega
theorem bv_byteOf (v : Int) : bv (byteOf v) = .int .u8 (v % 256) := by
  unfold bv
  rw [byteOf_val]

/-- Where the text's length begins in what is put behind it. -/
def fillOf (n : Nat) : Nat := 64 - (n + 8) % 64
/-- What is put behind a text of n bytes, while k bytes of the length are laid. -/
def tailAt (n k j : Nat) : UInt8 := if j = 0 then 128 else if fillOf n ≤ j ∧ j < fillOf n + k then byteOf ((n : Int) * 8 / 2 ^ (8 * (7 - (j - fillOf n)))) else 0
def padOf (n : Nat) : List UInt8 := (List.range (fillOf n + 8)).map (tailAt n 8)
/-- The words of a text's digest, and its bytes. -/
def shaOf (text : List UInt8) : List Int := shaW (text ++ padOf text.length)
def hashAt (ws : List Int) (k : Nat) : UInt8 := byteOf (ws.getD (k / 4) 0 / 2 ^ (8 * (3 - k % 4)))
def hashOf (text : List UInt8) : List UInt8 := (List.range 32).map (hashAt (shaOf text))
theorem hashOf_len (text : List UInt8) : (hashOf text).length = 32 := by simp [hashOf]

theorem size35 : (Tryz.prog.info? 26).map (·.size) = some 32 := by kernel_rfl

theorem z76' : Tryz.zeroCells261 = Array.replicate 72 (bv 0) := by kernel_rfl
theorem z76 (j : Nat) (hj : j < 72) : Tryz.zeroCells261[j]? = some (bv 0) := by
  rw [z76']
  simp [hj]
theorem s76 : Tryz.zeroCells261.size = 72 := by rw [z76']; simp
theorem shr8 (x : Int) (s : Int) (m : Nat) (h : s = (m : Int)) : IntKind.u8.wrap (x / 2 ^ s.toNat) = (x / 2 ^ m) % 256 := by
  rw [h, IntKind.wrap_u8, Int.toNat_natCast]

set_option maxRecDepth 100000 in
set_option maxHeartbeats 4000000 in
theorem sum_any (w : World) (arr : Array Value) (text rest : List UInt8) (hs : arr.size = 73) (h : MxA arr 0 (shaW text) rest text.length) (hrest : rest.take (text.length % 64) = tailOf text) (hl : Laid1 w) (h2 : 3 ≤ w.heap.size) (hsz : text.length + 72 ≤ 281474976710656) :
    Calls Tryz.prog 148 #[.agg arr] w fun e w' => e = .returned (.agg ((hashOf text).map bv).toArray) ∧ Turn no w w' := by
  obtain ⟨n, hn⟩ : ∃ n, n = text.length := ⟨_, rfl⟩
  rw [← hn] at h hsz hrest
  have c72' := h.taken
  simp only [Nat.zero_add] at c72'
  have c72 : arr[72]'(by omega) = Value.int .u64 n := by
    rw [Array.getElem?_eq_getElem (by omega)] at c72'
    exact Option.some.inj c72'
  obtain ⟨f, hf⟩ : ∃ f, f = fillOf n := ⟨_, rfl⟩
  have hff : 1 ≤ f ∧ f ≤ 64 := by rw [hf, fillOf]; omega
  have hfi : Hid ((64 : Int) - ((n : Int) + 8) % 64 = (f : Int)) := show (64 : Int) - ((n : Int) + 8) % 64 = (f : Int) by rw [hf, fillOf]; omega
  have hF : Hid (f = fillOf n) := hf
  have hn' : Hid (n = text.length) := hn
  clear c72' hf hn
  go_enter Tryz.func148, Tryz.ntmps148
  go_wp2_with fail
  rw [hfi.out]
  go_loopw [15] (fun c wr => ∃ (k : Nat) (tl : Array Value), k ≤ 8 ∧ c = .int .i64 k ∧ Row wr (w.heap.size + 1 + 1) tl 261 ∧ tl.size = 72 ∧ (∀ j, j < 72 → tl[j]? = some (bv (tailAt n k j))) ∧ Row wr w.heap.size arr 241 ∧ (∃ z, Row wr (w.heap.size + 1) z 26 ∧ z.size = 32) ∧ Turn no w wr) (fun c _ => 8 - (intOf c).toNat)
  case atStart =>
    refine ⟨0, _, Nat.zero_le _, rfl, by simpa [Row] using heap_alloc_new ((w.alloc _).alloc _) _, by simp, fun j hj => ?_, ((Row.new w _ _).alloc _).alloc _, ⟨_, Row.alloc (by simpa [Row] using heap_alloc_new (w.alloc _) _) _, rfl⟩, (((Turn.refl no w).alloc _).alloc _).alloc _⟩
    unfold tailAt
    by_cases h0 : j = 0
    · subst h0
      simp [bv]
    · rw [Array.getElem?_setIfInBounds_ne (by omega), z76 j hj, if_neg h0, if_neg (by omega)]
  case round =>
    obtain ⟨k, tl, hk, rfl, Rt, hts, ht, Rm, ⟨z, Rz, hz⟩, T⟩ := hrel
    by_cases hlt : k < 8
    · have hlt' : (k : Int) < 8 := by omega
      have cm := Rm.cell 72 _ (by rw [Array.getElem?_eq_getElem (by omega), c72])
      have ct := Rt.cell (f + k) _ (ht (f + k) (by omega))
      have ft := Rt.frozen (f + k)
      have hb8 : IntKind.u64.wrap ((n : Int) * 8) = (n : Int) * 8 := by rw [IntKind.wrap_u64]; omega
      have hb7 : (0 : Int) ≤ 8 * (7 - (k : Int)) := by omega
      have hfk : (f : Int) + (k : Int) < 72 := by omega
      go_wp2_with fail
      go_roundw
      case rel =>
        refine ⟨k + 1, _, by omega, by go_num, Rt.set (f + k) _, by simpa using hts, fun j hj => ?_, Rm.other (by show w.heap.size + 1 + 1 ≠ w.heap.size; omega) _, ⟨z, Rz.other (by show w.heap.size + 1 + 1 ≠ w.heap.size + 1; omega) _, hz⟩, T.setCell (fun q => by have q' : w.heap.size + 1 + 1 < w.heap.size := q; omega) _⟩
        have hF' := hF.out
        by_cases hjk : j = f + k
        · subst hjk
          rw [Array.getElem?_setIfInBounds_self_of_lt (by omega)]
          unfold tailAt
          rw [if_neg (by omega), if_pos (by omega), bv_byteOf, show f + k - fillOf n = k by omega]
        · rw [Array.getElem?_setIfInBounds_ne (by omega), ht j hj]
          congr 2
          unfold tailAt
          by_cases h0 : j = 0
          · rw [if_pos h0, if_pos h0]
          · rw [if_neg h0, if_neg h0]
            by_cases hin : fillOf n ≤ j ∧ j < fillOf n + k
            · rw [if_pos hin, if_pos (by omega)]
            · rw [if_neg hin, if_neg (by omega)]
      case measure => simp [intOf]; omega
    · have hlt' : ¬ (k : Int) < 8 := by omega
      have hk8 : k = 8 := by omega
      subst hk8
      have hF' := hF.out
      have hnn := hn'.out
      have Bt : Bs wr (.slice (some ⟨w.heap.size + 1 + 1, 0, none⟩) (f + 8) 72) (padOf n) := by
        refine Or.inr ⟨⟨w.heap.size + 1 + 1, 0, none⟩, 72, by simp [padOf, hF'], by simp [padOf]; omega, by simp [maxLen], fun j u hu => ?_⟩
        have hj : j < fillOf n + 8 := by have := (List.getElem?_eq_some_iff.1 hu).1; simpa [padOf] using this
        rw [Addr.add_lit, Nat.zero_add, Rt.cell j _ (ht j (by omega))]
        simp [padOf, hj] at hu
        rw [hu]
      have hpl : (padOf n).length = f + 8 := by simp [padOf, hF']
      have hM : Mx wr w.heap.size 0 241 73 text := ⟨arr, rest, Rm, hs, by rw [← hnn]; exact h, by rw [← hnn]; exact hrest⟩
      have htake := take_any wr w.heap.size 0 241 text _ (padOf n) 73 hM Bt (fun _ g q e => by cases q; have e' : w.heap.size + 1 + 1 = w.heap.size := e; omega) (hl.turn T (fun q => q)) (by omega) (by omega)
      have hsl : ∀ W a, (Instr.sliceAt 261 (.pointer (some a)) none (some (.int .i64 ((f : Int) + 8))) none).run Tryz.prog W = .ok (.slice (some a) (f + 8) 72) W := fun W a => by
        rw [run_sliceAt_array_h (P := Tryz.prog) W 261 a (by kernel_rfl) .i64 ((f : Int) + 8) (by omega) (by rw [show Tryz.prog.arrayLen 261 = 72 by kernel_rfl]; omega)]
        rw [show (sizeOf (Tryz.prog.elem 261)).run Tryz.prog W = .ok 1 W by kernel_rfl]
        rw [show Tryz.prog.arrayLen 261 = 72 by kernel_rfl]
        simp [slicedAt, Addr.add_zero']
        omega
      clear ht hF' hnn hpl Bt hM
      go_wp2_with fail
      refine htake.mono ?_
      rintro e w5 ⟨rfl, ⟨ar5, rest5, R5, _, M5, _⟩, T5⟩
      have hw5 := M5.words
      have Rz5 := Rz.turn T5 (by omega)
      have T5' : Turn no w w5 := T.trans T5 (fun i hi q => by omega)
      have hws : shaW (text ++ padOf n) = shaOf text := by rw [shaOf, ← hn'.out]
      rw [hws] at hw5
      have hs5 := M5.size
      clear M5 htake T5 Rt Rm hws hts T
      generalize hwsE : shaOf text = ws at *
      have HE : Hid (shaOf text = ws) := hwsE
      clear hwsE
      have hzl := Rz5.lt
      have hw5' : ∀ j, j < 8 → ar5[j]? = some (.int .u32 (ws.getD j 0)) := fun j hj => by simpa using hw5 j hj
      clear hw5 Rz
      go_wp2_with fail
      go_loopw [35] (fun c wr => ∃ (k : Nat) (ou : Array Value), k ≤ 32 ∧ c = .int .i64 k ∧ Row wr w5.heap.size ou 26 ∧ ou.size = 32 ∧ (∀ j, j < k → ou[j]? = some (bv (hashAt ws j))) ∧ Row wr w.heap.size ar5 241 ∧ Row wr (w.heap.size + 1) z 26 ∧ Turn no w wr) (fun c _ => 32 - (intOf c).toNat)
      case atStart => exact ⟨0, _, Nat.zero_le _, rfl, Row.new w5 _ _, rfl, fun j q => by omega, R5.alloc _, Rz5.alloc _, T5'.alloc _⟩
      case round =>
        clear R5 Rz5 T5'
        obtain ⟨k, ou, hk, rfl, Ro, hos, hou, Rm, Rz, T⟩ := hrel
        by_cases hlt : k < 32
        · have hlt' : (k : Int) < 32 := by omega
          have cw := Rm.cell (k / 4) _ (hw5' (k / 4) (by omega))
          have co := Ro.cell k (ou[k]'(by omega)) (by simp [hos, hlt])
          have fo := Ro.frozen k
          have hq8 : (k : Int) / 4 < 8 := by omega
          have hr3 : (0 : Int) ≤ 8 * (3 - (k : Int) % 4) := by omega
          have hha : bv (hashAt ws k) = .int .u8 (ws.getD (k / 4) 0 / 2 ^ (8 * (3 - k % 4)) % 256) := bv_byteOf _
          generalize ws.getD (k / 4) 0 = x at *
          go_wp2_with fail
          go_roundw
          case rel =>
            refine ⟨k + 1, _, by omega, by go_num, Ro.set k _, by simpa using hos, fun j hj => ?_, Rm.other (by show w5.heap.size ≠ w.heap.size; omega) _, Rz.other (by show w5.heap.size ≠ w.heap.size + 1; omega) _, T.setCell (fun q => by have q' : w5.heap.size < w.heap.size := q; omega) _⟩
            by_cases hjk : j = k
            · subst hjk
              rw [Array.getElem?_setIfInBounds_self_of_lt (by omega), hha]
            · rw [Array.getElem?_setIfInBounds_ne (by omega)]
              exact hou j (by omega)
          case measure => simp [intOf]; omega
        · have hlt' : ¬ (k : Int) < 32 := by omega
          have hk32 : k = 32 := by omega
          subst hk32
          have hwhole : ou = (((List.range 32).map (hashAt ws)).map bv).toArray := by
            apply Array.ext
            · simp [hos]
            · intro i h1 h2
              have := hou i (by omega)
              rw [Array.getElem?_eq_getElem h1] at this
              simp at this
              simp [this]
          have HW : Hid (ou = (((List.range 32).map (hashAt ws)).map bv).toArray) := hwhole
          have h1 : ou.all (·.oneCell') = true := by rw [hwhole]; simp [bv, Value.oneCell']
          have hi : (Tryz.prog.info? 26).map (·.size) = some ou.size := by rw [hos]; exact size35
          clear hwhole hou hw5'
          go_wp2_with (first
            | (refine wpList_load_row rfl 26 (.tmp 6) rfl w5.heap.size rfl 26 ou (0, 0) _ Ro Tryz.underlying26 rfl hi ?_)
            | (refine wpList_store_row rfl 26 (.tmp 2) (.tmp 52) rfl (w.heap.size + 1) ou rfl rfl 26 z Rz hi (by omega) h1 ?_))
          have hz' : (wr.setRow (w.heap.size + 1) ou).heap[w.heap.size + 1]? = some (.cells ou 26 (0, 0)) := setRow_heap _ _ _ _ _ _ Rz
          refine bodyPost_ret (v := .agg ou) (results_cell_row (P := Tryz.prog) Tryz.results148 _ _ (w.heap.size + 1) 26 ou (0, 0) _ rfl hz' Tryz.underlying26 rfl hi) rfl ⟨?_, T.setRow _ _ (fun q => by omega)⟩
          rw [HW.out, hashOf, HE.out]
end Go.Proofs.YtgbcdjjnpadddaaGreatDoor



/- The digest of pieces (newMixer, sumOf). -/
namespace Go.Proofs.YtgbcdjjnpadddaaGreatDoor
open Go.RowKit
set_option linter.unusedVariables false

theorem size29 : (Tryz.prog.info? 241).map (·.size) = some 73 := by kernel_rfl
def mx0 : Array Value := (h0.map (Value.int .u32) ++ (List.replicate 64 (bv 0) ++ [Value.int .u64 0])).toArray
theorem mx0_size : mx0.size = 73 := by simp [mx0, h0]
theorem mx0_one : mx0.all (·.oneCell') = true := by kernel_rfl
theorem mx0_is : MxA mx0 0 h0 (List.replicate 64 0) 0 := by
  refine ⟨fun j hj => ?_, by simp, fun j hj => ?_, ?_⟩
  · have : j = 0 ∨ j = 1 ∨ j = 2 ∨ j = 3 ∨ j = 4 ∨ j = 5 ∨ j = 6 ∨ j = 7 := by omega
    rcases this with rfl | rfl | rfl | rfl | rfl | rfl | rfl | rfl <;> rfl
  · unfold mx0
    have e8 : (h0.map (Value.int .u32)).length = 8 := rfl
    rw [List.getElem?_toArray, List.getElem?_append_right (by omega), List.getElem?_append_left (by rw [List.length_replicate]; omega), e8, show 0 + 8 + j - 8 = j by omega, List.getElem?_replicate, if_pos hj, List.getD_eq_getElem?_getD, List.getElem?_replicate, if_pos hj]
    rfl
  · rfl

set_option maxRecDepth 100000 in
set_option maxHeartbeats 4000000 in
theorem newMixer_any (w : World) : Calls Tryz.prog 145 #[] w fun e w' => e = .returned (.agg mx0) ∧ Turn no w w' := by
  go_enter Tryz.func145, Tryz.ntmps145
  go_wp2_with (refine wpList_store_row rfl 241 (.tmp 0) (.tmp 2) rfl w.heap.size _ rfl rfl 241 _ (heap_alloc_new w _) (by kernel_rfl) rfl (by kernel_rfl) ?_)
  refine bodyPost_ret (v := .agg mx0) ?_ rfl ⟨rfl, ((Turn.refl no w).alloc _).setRow _ _ (fun q => by omega)⟩
  refine results_cell_row (P := Tryz.prog) Tryz.results145 _ _ w.heap.size 241 mx0 (0, 0) _ rfl ?_ Tryz.underlying241 rfl (by kernel_rfl)
  rw [setRow_heap _ _ _ _ _ _ (heap_alloc_new w _)]
  kernel_rfl

/-- Pieces as they lie in memory. -/
def Pcs (w : World) (b o : Nat) (l : List (Value × List UInt8)) : Prop := ∀ j x, l[j]? = some x → w.cell? ⟨b, o + j, none⟩ = some x.1 ∧ Bs w x.1 x.2
theorem Pcs.turn_no {w w' : World} {b o : Nat} {l : List (Value × List UInt8)} (h : Pcs w b o l) (t : Turn no w w') : Pcs w' b o l :=
  fun j x hx => ⟨t.keep (h j x hx).1 (fun q => q), (h j x hx).2.turn_no t⟩
def joined (l : List (Value × List UInt8)) : List UInt8 := (l.map (·.2)).flatten

theorem joined_take_le (l : List (Value × List UInt8)) (k : Nat) : (joined (l.take k)).length ≤ (joined l).length := by
  have : joined l = joined (l.take k) ++ joined (l.drop k) := by
    unfold joined
    rw [← List.flatten_append, ← List.map_append, List.take_append_drop]
  rw [this]
  simp
theorem joined_succ (l : List (Value × List UInt8)) (k : Nat) (h : k < l.length) : joined (l.take (k + 1)) = joined (l.take k) ++ l[k].2 := by
  unfold joined
  rw [List.take_succ_eq_append_getElem h, List.map_append, List.flatten_append]
  simp

theorem Bs.old {w : World} {v : Value} {B : List UInt8} (h : Bs w v B) (hB : B ≠ []) : ∀ g, v.ownBlock = some g → g < w.heap.size := by
  intro g hg
  rcases h with ⟨q, r⟩ | ⟨a, c, rfl, _, _, h3⟩
  · exact (hB r).elim
  · cases hg
    have hp : 0 < B.length := by
      cases B with
      | nil => exact (hB rfl).elim
      | cons => simp
    have := World.block_lt_of_cell? w _ (h3 0 B[0] (by simp [hp]))
    simpa [Addr.add] using this

end Go.Proofs.YtgbcdjjnpadddaaGreatDoor



/- Sum, Leaf, Inner; alive. -/
namespace Go.Proofs.YtgbcdjjnpadddaaGreatDoor
open Go.RowKit
set_option linter.unusedVariables false

/-- A digest as a value. -/
def hv (bs : List UInt8) : Array Value := ((hashOf bs).map bv).toArray
theorem hv_size (bs : List UInt8) : (hv bs).size = 32 := by simp [hv, hashOf_len]
theorem hv_one (bs : List UInt8) : (hv bs).all (·.oneCell') = true := by simp [hv, bv, Value.oneCell']
theorem hv_info (bs : List UInt8) : (Tryz.prog.info? 26).map (·.size) = some (hv bs).size := by rw [hv_size]; exact size35
theorem hv_get (bs : List UInt8) (k : Nat) (hk : k < 32) : (hv bs)[k]? = some (bv (hashAt (shaOf bs) k)) := by simp [hv, hashOf, hk]

theorem Row.newAt (w : World) (cs : Array Value) (e : TypeId) (g : Nat) (h : g = w.heap.size) : Row (w.alloc (.cells cs e)) g cs e := by subst h; exact Row.new w cs e

/-- New bytes, marked as coming of a text. -/
def mark (w : World) (cs : Array Value) : World := (w.alloc (.cells cs 5)).freeze ⟨w.heap.size, cs.size, none⟩ 1
theorem conv22 (w : World) (cs : Array Value) (n c : Nat) : (convert 124 124 (.slice (some ⟨w.heap.size, 0, none⟩) n c)).run Tryz.prog (w.alloc (.cells cs 5)) = .ok (.slice (some ⟨w.heap.size, 0, none⟩) n c) (mark w cs) := by
  have hsh : (w.alloc (.cells cs 5)).shape? w.heap.size = some (5, cs.size) := by
    simp [World.shape?, World.alloc, -World.alloc_eq]
  simp [convert, run_underlying Tryz.underlying124, run_underlying Tryz.underlying5, markStringish, hsh, mark]
theorem mark_new (w : World) (cs : Array Value) : (mark w cs).heap[w.heap.size]? = some (.cells cs 5 (cs.size, cs.size + 1)) := by
  simp [mark, World.freeze, World.alloc, -World.alloc_eq, Array.getElem_modify]
theorem mark_turn (w : World) (cs : Array Value) : Turn no w (mark w cs) :=
  ⟨rfl, rfl, rfl, by simp [mark, World.freeze, World.alloc, -World.alloc_eq], fun k hk _ => by
    have : w.heap.size ≠ k := by omega
    simp [mark, World.freeze, World.alloc, -World.alloc_eq, Array.getElem?_modify, Array.getElem?_push, this, this.symm]⟩
theorem mark_cell (w : World) (cs : Array Value) (j : Nat) : (mark w cs).cell? ⟨w.heap.size, j, none⟩ = cs[j]? := cell_of_row _ _ j cs 5 _ (mark_new w cs)

end Go.Proofs.YtgbcdjjnpadddaaGreatDoor



/- Digests held against each other; hashers that no call made. -/
namespace Go.Proofs.YtgbcdjjnpadddaaGreatDoor
open Go.RowKit
set_option linter.unusedVariables false

theorem part5 (w : World) (X : List UInt8) (i : Nat) (h : i < X.length) : (part 5 (X.map bv).toArray (i * 1)).run Tryz.prog w = .ok (bv (X.getD i 0)) w := by
  simp [part, Tryz.isAgg5, h]

theorem eqItems_u8 (w : World) (d : Nat) (X Y : List UInt8) : ∀ is : List Nat, (∀ i ∈ is, i < X.length ∧ i < Y.length) → (Op.eqItems (d + 1) 5 1 (X.map bv).toArray (Y.map bv).toArray is).run Tryz.prog w = .ok (is.all fun i => X.getD i 0 == Y.getD i 0) w
  | [], _ => by simp [Op.eqItems]
  | i :: is, h => by
    have h1 := h i (by simp)
    have ih := eqItems_u8 w d X Y is (fun j hj => h j (by simp [hj]))
    have he := run_equalIn_int (P := Tryz.prog) w d 5 .u8 .u8 ((X.getD i 0).toNat : Int) ((Y.getD i 0).toNat : Int) Tryz.underlying5
    simp only [Op.eqItems, Sem.run_bind, part5 w X i h1.1, part5 w Y i h1.2, Result.andThen_ok]
    simp only [bv, he, Result.andThen_ok]
    have hb : ((((X.getD i 0).toNat : Nat) : Int) == (((Y.getD i 0).toNat : Nat) : Int)) = (X.getD i 0 == Y.getD i 0) := by
      by_cases hq : X.getD i 0 = Y.getD i 0
      · rw [hq]; simp
      · have : (X.getD i 0).toNat ≠ (Y.getD i 0).toNat := fun q => hq (UInt8.toNat_inj.1 q)
        rw [beq_false_of_ne hq, beq_false_of_ne (by omega)]
    rw [hb]
    rw [List.all_cons]
    cases hq : (X.getD i 0 == Y.getD i 0) with
    | false => rfl
    | true => simpa using ih

theorem all_range (X Y : List UInt8) (n : Nat) (hx : X.length = n) (hy : Y.length = n) : ((List.range n).all fun i => X.getD i 0 == Y.getD i 0) = (X == Y) := by
  by_cases h : X = Y
  · subst h; simp
  · rw [beq_false_of_ne h]
    rw [Bool.eq_false_iff]
    intro q
    apply h
    apply List.ext_getElem (by omega)
    intro i h1 h2
    have := List.all_eq_true.1 q i (by simp; omega)
    simp [h1, h2] at this
    exact this

theorem eqIn35 (w : World) (X Y : List UInt8) (hx : X.length = 32) (hy : Y.length = 32) : (Op.equalIn 10000 26 (.agg (X.map bv).toArray) (.agg (Y.map bv).toArray)).run Tryz.prog w = .ok (X == Y) w := by
  obtain ⟨i, hi⟩ : ∃ i, Tryz.prog.info? 5 = some i := by
    cases hq : Tryz.prog.info? 5 with
    | none => have := size5; simp [hq] at this
    | some i => exact ⟨i, rfl⟩
  rw [show (10000 : Nat) = 9999 + 1 from rfl, run_equalIn_array w 9999 _ _ Tryz.underlying26 hi]
  have hc : Tryz.prog.cellsOf 5 = 1 := by kernel_rfl
  rw [hc, eqItems_u8 w 9998 X Y _ (fun j hj => by simp at hj; omega), all_range X Y 32 hx hy]

theorem eql35 (w : World) (X Y : List UInt8) (hx : X.length = 32) (hy : Y.length = 32) : (binOp .eql 26 (.agg (X.map bv).toArray) (.agg (Y.map bv).toArray)).run Tryz.prog w = .ok (.bool (X == Y)) w := by
  rw [run_eql_struct, eqIn35 w X Y hx hy]
  rfl
theorem neq35 (w : World) (X Y : List UInt8) (hx : X.length = 32) (hy : Y.length = 32) : (binOp .neq 26 (.agg (X.map bv).toArray) (.agg (Y.map bv).toArray)).run Tryz.prog w = .ok (.bool (!(X == Y))) w := by
  rw [run_neq_struct, eqIn35 w X Y hx hy]
  rfl
/-- Digests held against each other. -/
theorem eqlH (w : World) (x y : List UInt8) : (binOp .eql 26 (.agg (hv x)) (.agg (hv y))).run Tryz.prog w = .ok (.bool (hashOf x == hashOf y)) w := eql35 w _ _ (hashOf_len x) (hashOf_len y)

theorem eql23_nil (a : Addr) (w : World) : (binOp .eql 209 (.pointer none) (.pointer (some a))).run Tryz.prog w = .ok (.bool false) w := by
  have h : ∀ d : Nat, (Op.equalIn (d + 1) 209 (.pointer none) (.pointer (some a))).run Tryz.prog w = .ok false w := fun d => by
    simp [Op.equalIn, run_underlying Tryz.underlying209]
  simp only [binOp]
  simp [Op.equal, Op.maxDepth, h 9999]

set_option maxRecDepth 100000 in
set_option maxHeartbeats 1000000 in
theorem made_nil (w : World) : Calls Tryz.prog 146 #[.pointer none] w fun e w' => e = .returned (.bool false) ∧ w' = w := by
  go_enter Tryz.func146, Tryz.ntmps146
  go_wp2_with fail
  go_ret
  exact ⟨rfl, rfl⟩

set_option maxRecDepth 100000 in
set_option maxHeartbeats 1000000 in
theorem made_zero (w : World) (p : Nat) (h : w.cell? ⟨p, 0, none⟩ = some (.pointer none)) : Calls Tryz.prog 146 #[.pointer (some ⟨p, 0, none⟩)] w fun e w' => e = .returned (.bool false) ∧ w' = w := by
  have e1 := fun a w => eql23_nil a w
  go_enter Tryz.func146, Tryz.ntmps146
  go_wp2_with fail
  go_ret
  exact ⟨rfl, rfl⟩

/-- A Hasher that no call made. -/
def NoH (w : World) (v : Value) : Prop := v = .pointer none ∨ ∃ p, v = .pointer (some ⟨p, 0, none⟩) ∧ w.cell? ⟨p, 0, none⟩ = some (.pointer none)
theorem made_no (w : World) (v : Value) (h : NoH w v) : Calls Tryz.prog 146 #[v] w fun e w' => e = .returned (.bool false) ∧ w' = w := by
  rcases h with rfl | ⟨p, rfl, h⟩
  · exact made_nil w
  · exact made_zero w p h
theorem NoH.form {w : World} {v : Value} (h : NoH w v) : ∃ a, v = .pointer a := by
  rcases h with rfl | ⟨p, rfl, _⟩
  · exact ⟨none, rfl⟩
  · exact ⟨_, rfl⟩

set_option maxRecDepth 100000 in
set_option maxHeartbeats 1000000 in
theorem write_no (w : World) (v va : Value) (h : NoH w v) (a : Option Addr) (n c : Nat) (hva : va = .slice a n c) : Calls Tryz.prog 115 #[v, va] w fun e w' => e = .returned (.tuple #[]) ∧ w' = w := by
  have hm := made_no w v h
  obtain ⟨pa, rfl⟩ := h.form
  subst hva
  go_enter Tryz.func115, Tryz.ntmps115
  go_wp2_with fail
  refine hm.mono ?_
  rintro e w' ⟨rfl, rfl⟩
  go_wp2_with fail
  go_end0
  exact ⟨rfl, rfl⟩

def zeroH : Array Value := ((List.replicate 32 (0 : UInt8)).map bv).toArray
set_option maxRecDepth 100000 in
set_option maxHeartbeats 1000000 in
theorem sum_no (w : World) (v : Value) (h : NoH w v) : Calls Tryz.prog 116 #[v] w fun e w' => e = .returned (.agg zeroH) ∧ Turn no w w' := by
  have hm := fun W (T : Turn no w W) => made_no W v (by
    rcases h with rfl | ⟨p, rfl, h⟩
    · exact Or.inl rfl
    · exact Or.inr ⟨p, rfl, T.keep h (fun q => q)⟩)
  obtain ⟨pa, rfl⟩ := h.form
  go_enter Tryz.func116, Tryz.ntmps116
  go_wp2_with fail
  refine (hm _ ((Turn.refl no w).alloc _)).mono ?_
  rintro e w' ⟨rfl, rfl⟩
  go_wp2_with (refine wpList_store_row rfl 26 (.tmp 2) (.tmp 6) rfl w.heap.size _ rfl rfl 26 _ (heap_alloc_new w _) (by kernel_rfl) rfl (by kernel_rfl) ?_)
  refine bodyPost_ret (v := .agg zeroH) ?_ rfl ⟨rfl, ((Turn.refl no w).alloc _).setRow _ _ (fun q => by omega)⟩
  refine results_cell_row (P := Tryz.prog) Tryz.results116 _ _ w.heap.size 26 zeroH (0, 0) _ rfl ?_ Tryz.underlying26 rfl (by kernel_rfl)
  rw [setRow_heap _ _ _ _ _ _ (heap_alloc_new w _)]
  kernel_rfl
end Go.Proofs.YtgbcdjjnpadddaaGreatDoor


