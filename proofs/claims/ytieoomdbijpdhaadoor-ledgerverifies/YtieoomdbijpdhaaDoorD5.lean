/- The digest of what a mixer has taken (sum). -/
import Derived.Test.YtieoomdbijpdhaaDoorD4
namespace Go.Proofs.YtieoomdbijpdhaaDoor
open Go.RowKit
set_option linter.unusedVariables false

def byteOf (v : Int) : UInt8 := UInt8.ofNat (v % 256).toNat
theorem byteOf_val (v : Int) : ((byteOf v).toNat : Int) = v % 256 := by
  unfold byteOf
  simp
  omega
theorem bv_byteOf (v : Int) : bv (byteOf v) = .int .u8 (v % 256) := by
  unfold bv
  rw [byteOf_val]

/-- Where the text's length begins in what is put behind it. -/
def fillOf (n : Nat) : Nat := 64 - (n + 8) % 64
/-- What is put behind a text of n bytes, while k bytes of the length are laid. -/
def tailAt (n k j : Nat) : UInt8 := if j = 0 then 128 else if fillOf n ≤ j ∧ j < fillOf n + k then byteOf ((n : Int) * 8 / 2 ^ (8 * (7 - (j - fillOf n)))) else 0
def padOf (n : Nat) : List UInt8 := (List.range (fillOf n + 8)).map (tailAt n 8)
/-- The words of a text's digest, and its bytes. -/
def shaOf (text : List UInt8) : List Int := shaW (text ++ padOf text.length)
def hashAt (ws : List Int) (k : Nat) : UInt8 := byteOf (ws.getD (k / 4) 0 / 2 ^ (8 * (3 - k % 4)))
def hashOf (text : List UInt8) : List UInt8 := (List.range 32).map (hashAt (shaOf text))
theorem hashOf_len (text : List UInt8) : (hashOf text).length = 32 := by simp [hashOf]

theorem size35 : (Tryd.prog.info? 23).map (·.size) = some 32 := by kernel_rfl

theorem z76' : Tryd.zeroCells147 = Array.replicate 72 (bv 0) := by kernel_rfl
theorem z76 (j : Nat) (hj : j < 72) : Tryd.zeroCells147[j]? = some (bv 0) := by
  rw [z76']
  simp [hj]
theorem s76 : Tryd.zeroCells147.size = 72 := by rw [z76']; simp
theorem shr8 (x : Int) (s : Int) (m : Nat) (h : s = (m : Int)) : IntKind.u8.wrap (x / 2 ^ s.toNat) = (x / 2 ^ m) % 256 := by
  rw [h, IntKind.wrap_u8, Int.toNat_natCast]

set_option maxRecDepth 100000 in
set_option maxHeartbeats 4000000 in
theorem sum_any (w : World) (arr : Array Value) (text rest : List UInt8) (hs : arr.size = 73) (h : MxA arr 0 (shaW text) rest text.length) (hrest : rest.take (text.length % 64) = tailOf text) (hl : Laid1 w) (h2 : 2 ≤ w.heap.size) (hsz : text.length + 72 ≤ 281474976710656) :
    Calls Tryd.prog 82 #[.agg arr] w fun e w' => e = .returned (.agg ((hashOf text).map bv).toArray) ∧ Turn no w w' := by
  obtain ⟨n, hn⟩ : ∃ n, n = text.length := ⟨_, rfl⟩
  rw [← hn] at h hsz hrest
  have c72' := h.taken
  simp only [Nat.zero_add] at c72'
  have c72 : arr[72]'(by omega) = Value.int .u64 n := by
    rw [Array.getElem?_eq_getElem (by omega)] at c72'
    exact Option.some.inj c72'
  obtain ⟨f, hf⟩ : ∃ f, f = fillOf n := ⟨_, rfl⟩
  have hff : 1 ≤ f ∧ f ≤ 64 := by rw [hf, fillOf]; omega
  have hfi : Hid ((64 : Int) - ((n : Int) + 8) % 64 = (f : Int)) := show (64 : Int) - ((n : Int) + 8) % 64 = (f : Int) by rw [hf, fillOf]; omega
  have hF : Hid (f = fillOf n) := hf
  have hn' : Hid (n = text.length) := hn
  clear c72' hf hn
  go_enter Tryd.func82, Tryd.ntmps82
  go_wp2_with fail
  rw [hfi.out]
  go_loopw [15] (fun c wr => ∃ (k : Nat) (tl : Array Value), k ≤ 8 ∧ c = .int .i64 k ∧ Row wr (w.heap.size + 1 + 1) tl 147 ∧ tl.size = 72 ∧ (∀ j, j < 72 → tl[j]? = some (bv (tailAt n k j))) ∧ Row wr w.heap.size arr 127 ∧ (∃ z, Row wr (w.heap.size + 1) z 23 ∧ z.size = 32) ∧ Turn no w wr) (fun c _ => 8 - (intOf c).toNat)
  case atStart =>
    refine ⟨0, _, Nat.zero_le _, rfl, by simpa [Row] using heap_alloc_new ((w.alloc _).alloc _) _, by simp, fun j hj => ?_, ((Row.new w _ _).alloc _).alloc _, ⟨_, Row.alloc (by simpa [Row] using heap_alloc_new (w.alloc _) _) _, rfl⟩, (((Turn.refl no w).alloc _).alloc _).alloc _⟩
    unfold tailAt
    by_cases h0 : j = 0
    · subst h0
      simp [bv]
    · rw [Array.getElem?_setIfInBounds_ne (by omega), z76 j hj, if_neg h0, if_neg (by omega)]
  case round =>
    obtain ⟨k, tl, hk, rfl, Rt, hts, ht, Rm, ⟨z, Rz, hz⟩, T⟩ := hrel
    by_cases hlt : k < 8
    · have hlt' : (k : Int) < 8 := by omega
      have cm := Rm.cell 72 _ (by rw [Array.getElem?_eq_getElem (by omega), c72])
      have ct := Rt.cell (f + k) _ (ht (f + k) (by omega))
      have ft := Rt.frozen (f + k)
      have hb8 : IntKind.u64.wrap ((n : Int) * 8) = (n : Int) * 8 := by rw [IntKind.wrap_u64]; omega
      have hb7 : (0 : Int) ≤ 8 * (7 - (k : Int)) := by omega
      have hfk : (f : Int) + (k : Int) < 72 := by omega
      go_wp2_with fail
      go_roundw
      case rel =>
        refine ⟨k + 1, _, by omega, by go_num, Rt.set (f + k) _, by simpa using hts, fun j hj => ?_, Rm.other (by show w.heap.size + 1 + 1 ≠ w.heap.size; omega) _, ⟨z, Rz.other (by show w.heap.size + 1 + 1 ≠ w.heap.size + 1; omega) _, hz⟩, T.setCell (fun q => by have q' : w.heap.size + 1 + 1 < w.heap.size := q; omega) _⟩
        have hF' := hF.out
        by_cases hjk : j = f + k
        · subst hjk
          rw [Array.getElem?_setIfInBounds_self_of_lt (by omega)]
          unfold tailAt
          rw [if_neg (by omega), if_pos (by omega), bv_byteOf, show f + k - fillOf n = k by omega]
        · rw [Array.getElem?_setIfInBounds_ne (by omega), ht j hj]
          congr 2
          unfold tailAt
          by_cases h0 : j = 0
          · rw [if_pos h0, if_pos h0]
          · rw [if_neg h0, if_neg h0]
            by_cases hin : fillOf n ≤ j ∧ j < fillOf n + k
            · rw [if_pos hin, if_pos (by omega)]
            · rw [if_neg hin, if_neg (by omega)]
      case measure => simp [intOf]; omega
    · have hlt' : ¬ (k : Int) < 8 := by omega
      have hk8 : k = 8 := by omega
      subst hk8
      have hF' := hF.out
      have hnn := hn'.out
      have Bt : Bs wr (.slice (some ⟨w.heap.size + 1 + 1, 0, none⟩) (f + 8) 72) (padOf n) := by
        refine Or.inr ⟨⟨w.heap.size + 1 + 1, 0, none⟩, 72, by simp [padOf, hF'], by simp [padOf]; omega, by simp [maxLen], fun j u hu => ?_⟩
        have hj : j < fillOf n + 8 := by have := (List.getElem?_eq_some_iff.1 hu).1; simpa [padOf] using this
        rw [Addr.add_lit, Nat.zero_add, Rt.cell j _ (ht j (by omega))]
        simp [padOf, hj] at hu
        rw [hu]
      have hpl : (padOf n).length = f + 8 := by simp [padOf, hF']
      have hM : Mx wr w.heap.size 0 127 73 text := ⟨arr, rest, Rm, hs, by rw [← hnn]; exact h, by rw [← hnn]; exact hrest⟩
      have htake := take_any wr w.heap.size 0 127 text _ (padOf n) 73 hM Bt (fun _ g q e => by cases q; have e' : w.heap.size + 1 + 1 = w.heap.size := e; omega) (hl.turn T (fun q => q)) (by omega) (by omega)
      have hsl : ∀ W a, (Instr.sliceAt 147 (.pointer (some a)) none (some (.int .i64 ((f : Int) + 8))) none).run Tryd.prog W = .ok (.slice (some a) (f + 8) 72) W := fun W a => by
        rw [run_sliceAt_array_h (P := Tryd.prog) W 147 a (by kernel_rfl) .i64 ((f : Int) + 8) (by omega) (by rw [show Tryd.prog.arrayLen 147 = 72 by kernel_rfl]; omega)]
        rw [show (sizeOf (Tryd.prog.elem 147)).run Tryd.prog W = .ok 1 W by kernel_rfl]
        rw [show Tryd.prog.arrayLen 147 = 72 by kernel_rfl]
        simp [slicedAt, Addr.add_zero']
        omega
      clear ht hF' hnn hpl Bt hM
      go_wp2_with fail
      refine htake.mono ?_
      rintro e w5 ⟨rfl, ⟨ar5, rest5, R5, _, M5, _⟩, T5⟩
      have hw5 := M5.words
      have Rz5 := Rz.turn T5 (by omega)
      have T5' : Turn no w w5 := T.trans T5 (fun i hi q => by omega)
      have hws : shaW (text ++ padOf n) = shaOf text := by rw [shaOf, ← hn'.out]
      rw [hws] at hw5
      have hs5 := M5.size
      clear M5 htake T5 Rt Rm hws hts T
      generalize hwsE : shaOf text = ws at *
      have HE : Hid (shaOf text = ws) := hwsE
      clear hwsE
      have hzl := Rz5.lt
      have hw5' : ∀ j, j < 8 → ar5[j]? = some (.int .u32 (ws.getD j 0)) := fun j hj => by simpa using hw5 j hj
      clear hw5 Rz
      go_wp2_with fail
      go_loopw [35] (fun c wr => ∃ (k : Nat) (ou : Array Value), k ≤ 32 ∧ c = .int .i64 k ∧ Row wr w5.heap.size ou 23 ∧ ou.size = 32 ∧ (∀ j, j < k → ou[j]? = some (bv (hashAt ws j))) ∧ Row wr w.heap.size ar5 127 ∧ Row wr (w.heap.size + 1) z 23 ∧ Turn no w wr) (fun c _ => 32 - (intOf c).toNat)
      case atStart => exact ⟨0, _, Nat.zero_le _, rfl, Row.new w5 _ _, rfl, fun j q => by omega, R5.alloc _, Rz5.alloc _, T5'.alloc _⟩
      case round =>
        clear R5 Rz5 T5'
        obtain ⟨k, ou, hk, rfl, Ro, hos, hou, Rm, Rz, T⟩ := hrel
        by_cases hlt : k < 32
        · have hlt' : (k : Int) < 32 := by omega
          have cw := Rm.cell (k / 4) _ (hw5' (k / 4) (by omega))
          have co := Ro.cell k (ou[k]'(by omega)) (by simp [hos, hlt])
          have fo := Ro.frozen k
          have hq8 : (k : Int) / 4 < 8 := by omega
          have hr3 : (0 : Int) ≤ 8 * (3 - (k : Int) % 4) := by omega
          have hha : bv (hashAt ws k) = .int .u8 (ws.getD (k / 4) 0 / 2 ^ (8 * (3 - k % 4)) % 256) := bv_byteOf _
          generalize ws.getD (k / 4) 0 = x at *
          go_wp2_with fail
          go_roundw
          case rel =>
            refine ⟨k + 1, _, by omega, by go_num, Ro.set k _, by simpa using hos, fun j hj => ?_, Rm.other (by show w5.heap.size ≠ w.heap.size; omega) _, Rz.other (by show w5.heap.size ≠ w.heap.size + 1; omega) _, T.setCell (fun q => by have q' : w5.heap.size < w.heap.size := q; omega) _⟩
            by_cases hjk : j = k
            · subst hjk
              rw [Array.getElem?_setIfInBounds_self_of_lt (by omega), hha]
            · rw [Array.getElem?_setIfInBounds_ne (by omega)]
              exact hou j (by omega)
          case measure => simp [intOf]; omega
        · have hlt' : ¬ (k : Int) < 32 := by omega
          have hk32 : k = 32 := by omega
          subst hk32
          have hwhole : ou = (((List.range 32).map (hashAt ws)).map bv).toArray := by
            apply Array.ext
            · simp [hos]
            · intro i h1 h2
              have := hou i (by omega)
              rw [Array.getElem?_eq_getElem h1] at this
              simp at this
              simp [this]
          have HW : Hid (ou = (((List.range 32).map (hashAt ws)).map bv).toArray) := hwhole
          have h1 : ou.all (·.oneCell') = true := by rw [hwhole]; simp [bv, Value.oneCell']
          have hi : (Tryd.prog.info? 23).map (·.size) = some ou.size := by rw [hos]; exact size35
          clear hwhole hou hw5'
          go_wp2_with (first
            | (refine wpList_load_row rfl 23 (.tmp 6) rfl w5.heap.size rfl 23 ou (0, 0) _ Ro Tryd.underlying23 rfl hi ?_)
            | (refine wpList_store_row rfl 23 (.tmp 2) (.tmp 52) rfl (w.heap.size + 1) ou rfl rfl 23 z Rz hi (by omega) h1 ?_))
          have hz' : (wr.setRow (w.heap.size + 1) ou).heap[w.heap.size + 1]? = some (.cells ou 23 (0, 0)) := setRow_heap _ _ _ _ _ _ Rz
          refine bodyPost_ret (v := .agg ou) (results_cell_row (P := Tryd.prog) Tryd.results82 _ _ (w.heap.size + 1) 23 ou (0, 0) _ rfl hz' Tryd.underlying23 rfl hi) rfl ⟨?_, T.setRow _ _ (fun q => by omega)⟩
          rw [HW.out, hashOf, HE.out]
end Go.Proofs.YtieoomdbijpdhaaDoor

