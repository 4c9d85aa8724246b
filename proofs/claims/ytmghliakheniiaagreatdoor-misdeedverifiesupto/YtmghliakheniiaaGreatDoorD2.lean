/- The words of a block: what the rounds take (spread). -/
import Derived.Test.YtmghliakheniiaaGreatDoorD1
import Derived.Deep.WholeRow
import Derived.BigRegion
namespace Go.Proofs.YtmghliakheniiaaGreatDoor
open Go.RowKit
set_option linter.unusedVariables false

/-- The word of four bytes. -/
def word4 (a b c d : Int) : Int := bits .or .u32 (bits .or .u32 (bits .or .u32 (a % 4294967296 * 16777216 % 4294967296) (b % 4294967296 * 65536 % 4294967296)) (c % 4294967296 * 256 % 4294967296)) (d % 4294967296)
def byteI (bs : List UInt8) (j : Nat) : Int := ((bs.getD j 0).toNat : Int)
def wordAt (bs : List UInt8) (j : Nat) : Int := word4 (byteI bs (4 * j)) (byteI bs (4 * j + 1)) (byteI bs (4 * j + 2)) (byteI bs (4 * j + 3))
def sig0 (x : Int) : Int := bits .xor .u32 (bits .xor .u32 (rotI 128 33554432 x) (rotI 262144 16384 x)) (x / 8)
def sig1 (x : Int) : Int := bits .xor .u32 (bits .xor .u32 (rotI 131072 32768 x) (rotI 524288 8192 x)) (x / 1024)
def nextW (l : List Int) : Int := (l.getD (l.length - 16) 0 + sig0 (l.getD (l.length - 15) 0) + l.getD (l.length - 7) 0 + sig1 (l.getD (l.length - 2) 0)) % 4294967296
def plan (bs : List UInt8) : Nat → List Int
  | 0 => (List.range 16).map (wordAt bs)
  | n + 1 => plan bs n ++ [nextW (plan bs n)]
theorem plan_len (bs : List UInt8) (n : Nat) : (plan bs n).length = n + 16 := by
  induction n with
  | zero => simp [plan]
  | succ n ih => rw [plan, List.length_append, ih]; simp only [List.length_cons, List.length_nil]; try omega

theorem Bs.byte {w : World} {b o n cap : Nat} {bs : List UInt8} (h : Bs w (.slice (some ⟨b, o, none⟩) n cap) bs) (j : Nat) (hj : j < bs.length) : w.cell? ⟨b, o + j, none⟩ = some (.int .u8 (byteI bs j)) := by
  rcases h with ⟨h, rfl⟩ | ⟨a, c, h, h1, h2, h3⟩
  · cases h
  · cases h
    have := h3 j bs[j] (by simp [hj])
    rw [Addr.add_lit] at this
    rw [this]
    simp [bv, byteI, hj]

/-- A block of cells. -/
def Row (w : World) (g : Nat) (cs : Array Value) (e : TypeId) : Prop := w.heap[g]? = some (.cells cs e (0, 0))
section
variable {w : World} {g : Nat} {cs : Array Value} {e : TypeId}
theorem Row.cell (h : Row w g cs e) (j : Nat) (u : Value) (hu : cs[j]? = some u) : w.cell? ⟨g, j, none⟩ = some u := by
  rw [cell_of_row w g j cs e (0, 0) h]; exact hu
theorem Row.frozen (h : Row w g cs e) (j : Nat) : w.frozen? ⟨g, j, none⟩ = false := frozen_of_row w g j _ e h
theorem Row.lt (h : Row w g cs e) : g < w.heap.size := lt_of_obj h
theorem Row.set (h : Row w g cs e) (j : Nat) (u : Value) : Row (w.setCell ⟨g, j, none⟩ u) g (cs.setIfInBounds j u) e := heap_setCell_same w g j cs e u h
theorem Row.other (h : Row w g cs e) {p : Addr} (hp : p.block ≠ g) (u : Value) : Row (w.setCell p u) g cs e := by
  unfold Row at *
  rw [Below.heap_setCell w p u g (fun q => hp q.symm)]
  exact h
theorem Row.drew (h : Row w g cs e) : Row w.drew g cs e := h
theorem Row.drewN (h : Row w g cs e) (n : Nat) : Row (w.drewN n) g cs e := h
theorem Row.alloc (h : Row w g cs e) (o : Obj) : Row (w.alloc o) g cs e := by
  unfold Row at *
  rw [Below.heap_alloc w o g (lt_of_obj h)]
  exact h
theorem Row.turn {S : Nat → Prop} {w' : World} (h : Row w g cs e) (t : Turn S w w') (hn : ¬ S g) : Row w' g cs e := t.obj h hn
theorem Row.new (w : World) (cs : Array Value) (e : TypeId) : Row (w.alloc (.cells cs e)) w.heap.size cs e := heap_alloc_new w _
end

/-- The first places of a block hold these words. -/
def Fill (arr : Array Value) (l : List Int) : Prop := ∀ j, j < l.length → arr[j]? = some (.int .u32 (l.getD j 0))
theorem Fill.push {arr : Array Value} {l : List Int} (h : Fill arr l) (x : Int) (hs : l.length < arr.size) (k : Nat) (hk : k = l.length) : Fill (arr.setIfInBounds k (.int .u32 x)) (l ++ [x]) := by
  intro j hj
  subst hk
  simp at hj
  by_cases hjl : j = l.length
  · subst hjl
    simp [hs]
  · have : j < l.length := by omega
    rw [Array.getElem?_setIfInBounds_ne (by omega), h j this]
    simp [List.getElem?_append_left this, this]
theorem Fill.whole {arr : Array Value} {l : List Int} (h : Fill arr l) (hs : arr.size = l.length) : arr = (l.map (Value.int .u32)).toArray := by
  apply Array.ext
  · simp [hs]
  · intro i h1 h2
    have := h i (by omega)
    rw [Array.getElem?_eq_getElem h1] at this
    simp at this
    simp [this, show i < l.length by omega]

theorem zero77 : (Tryz.prog.info? 215).map (·.size) = some 64 := by kernel_rfl

set_option maxRecDepth 100000 in
set_option maxHeartbeats 4000000 in
theorem spread_any (w : World) (va : Value) (bs : List UInt8) (hb : Bs w va bs) (h64 : bs.length = 64) : Calls Tryz.prog 126 #[va] w fun e w' => e = .returned (.agg ((plan bs 48).map (Value.int .u32)).toArray) ∧ Turn no w w' := by
  obtain ⟨b, o, cap, rfl, hlc, hat⟩ := hb.at (by omega)
  clear hat
  rw [h64] at hlc ⊢
  go_enter Tryz.func126, Tryz.ntmps126
  go_wp2_with fail
  go_loopw [10] (fun c wr => ∃ (k : Nat) (arr : Array Value), k ≤ 16 ∧ c = .int .i64 k ∧ Row wr (w.heap.size + 1) arr 215 ∧ arr.size = 64 ∧ Fill arr ((List.range k).map (wordAt bs)) ∧ (∃ z, Row wr w.heap.size z 215 ∧ z.size = 64) ∧ Turn no w wr) (fun c _ => 16 - (intOf c).toNat)
  case atStart => exact ⟨0, _, Nat.zero_le _, rfl, by simpa [Row] using heap_alloc_new (w.alloc _) _, rfl, fun j q => by simp at q, ⟨_, (Row.new w _ _).alloc _, rfl⟩, ((Turn.refl no w).alloc _).alloc _⟩
  case round =>
    obtain ⟨k, arr, hk, rfl, hg, hs, ha, ⟨z, hz, hzs⟩, T⟩ := hrel
    by_cases hlt : k < 16
    · have hlt' : (k : Int) < 16 := by omega
      have hb' := hb.turn_no T
      have c0 := hb'.byte (4 * k) (by omega)
      have c1 := hb'.byte (4 * k + 1) (by omega)
      have c2 := hb'.byte (4 * k + 2) (by omega)
      have c3 := hb'.byte (4 * k + 3) (by omega)
      clear hb hb'
      have cu := hg.cell k arr[k] (by simp)
      have fz := hg.frozen k
      go_wp2_with fail
      go_region
      go_wp2_with fail
      go_roundw
      case rel =>
        refine ⟨k + 1, _, by omega, by go_num, (hg.set k _).drew, by simpa using hs, ?_, ⟨z, (hz.other (by simp) _).drew, hzs⟩, (T.setCell (fun q => absurd q (by simp)) _).drew⟩
        rw [List.range_succ, List.map_append]
        exact ha.push (wordAt bs k) (by simp; omega) k (by simp)
      case measure => simp [intOf]; omega
    · have hlt' : ¬ (k : Int) < 16 := by omega
      have hk16 : k = 16 := by omega
      subst hk16
      go_wp2_with fail
      go_loopw [5] (fun c wr => ∃ (n : Nat) (arr : Array Value), n ≤ 48 ∧ c = .int .i64 ((n + 16 : Nat) : Int) ∧ Row wr (w.heap.size + 1) arr 215 ∧ arr.size = 64 ∧ Fill arr (plan bs n) ∧ (∃ z, Row wr w.heap.size z 215 ∧ z.size = 64) ∧ Turn no w wr) (fun c _ => 64 - (intOf c).toNat)
      case atStart => exact ⟨0, arr, Nat.zero_le _, rfl, hg, hs, ha, ⟨z, hz, hzs⟩, T⟩
      case round =>
        clear hg hs ha hz hzs T
        obtain ⟨n, arr, hn, rfl, hg, hs, ha, ⟨z, hz, hzs⟩, T⟩ := hrel
        have hpl := plan_len bs n
        by_cases hlt : n < 48
        · have hlt' : ((n + 16 : Nat) : Int) < 64 := by omega
          have g16 : wr.cell? ⟨w.heap.size + 1, n, none⟩ = some (.int .u32 ((plan bs n).getD n 0)) := hg.cell n _ (ha n (by omega))
          have g15 : wr.cell? ⟨w.heap.size + 1, n + 1, none⟩ = some (.int .u32 ((plan bs n).getD (n + 1) 0)) := hg.cell _ _ (ha (n + 1) (by omega))
          have g7 : wr.cell? ⟨w.heap.size + 1, n + 9, none⟩ = some (.int .u32 ((plan bs n).getD (n + 9) 0)) := hg.cell _ _ (ha (n + 9) (by omega))
          have g2 : wr.cell? ⟨w.heap.size + 1, n + 14, none⟩ = some (.int .u32 ((plan bs n).getD (n + 14) 0)) := hg.cell _ _ (ha (n + 14) (by omega))
          have cu := hg.cell (n + 16) arr[n + 16] (by simp)
          have fz := hg.frozen (n + 16)
          have hnw : nextW (plan bs n) = ((plan bs n).getD n 0 + sig0 ((plan bs n).getD (n + 1) 0) + (plan bs n).getD (n + 9) 0 + sig1 ((plan bs n).getD (n + 14) 0)) % 4294967296 := by
            unfold nextW
            rw [hpl, show n + 16 - 16 = n by omega, show n + 16 - 15 = n + 1 by omega, show n + 16 - 7 = n + 9 by omega, show n + 16 - 2 = n + 14 by omega]
          clear hb
          generalize (plan bs n).getD n 0 = x16 at *
          generalize (plan bs n).getD (n + 1) 0 = x15 at *
          generalize (plan bs n).getD (n + 9) 0 = x7 at *
          generalize (plan bs n).getD (n + 14) 0 = x2 at *
          go_wp2_with fail
          go_region
          go_wp2_with fail
          refine (rot7 _ _).mono ?_
          rintro e w' ⟨rfl, rfl⟩
          go_wp2_with fail
          refine (rot18 _ _).mono ?_
          rintro e w' ⟨rfl, rfl⟩
          go_wp2_with fail
          refine (rot17 _ _).mono ?_
          rintro e w' ⟨rfl, rfl⟩
          go_wp2_with fail
          refine (rot19 _ _).mono ?_
          rintro e w' ⟨rfl, rfl⟩
          go_wp2_with fail
          go_region
          go_wp2_with fail
          go_roundw
          case rel =>
            refine ⟨n + 1, _, by omega, by go_num, (hg.set (n + 16) _).drew.drew, by simpa using hs, ?_, ⟨z, (hz.other (by simp) _).drew.drew, hzs⟩, (T.setCell (fun q => absurd q (by simp)) _).drew.drew⟩
            have hp := ha.push (nextW (plan bs n)) (by omega) (n + 16) (by omega)
            rw [hnw] at hp
            rw [plan, hnw]
            exact hp
          case measure => simp [intOf]; omega
        · have hlt' : ¬ ((n + 16 : Nat) : Int) < 64 := by omega
          have hn48 : n = 48 := by omega
          subst hn48
          have hw := ha.whole (by omega)
          have h1 : arr.all (·.oneCell') = true := by rw [hw]; simp [Value.oneCell']
          have hi : (Tryz.prog.info? 215).map (·.size) = some arr.size := by rw [hs]; exact zero77
          have HW : Hid (arr = ((plan bs 48).map (Value.int .u32)).toArray) := hw
          clear hb ha hpl hw
          go_wp2_with (first
            | (refine wpList_load_row rfl 215 (.tmp 3) rfl (w.heap.size + 1) rfl 215 arr (0, 0) _ hg Tryz.underlying215 rfl hi ?_)
            | (refine wpList_store_row rfl 215 (.tmp 2) (.tmp 92) rfl w.heap.size arr rfl rfl 215 z hz hi (by omega) h1 ?_))
          have hz' : (wr.setRow w.heap.size arr).heap[w.heap.size]? = some (.cells arr 215 (0, 0)) := setRow_heap _ _ _ _ _ _ hz
          refine bodyPost_ret (v := .agg arr) (results_cell_row (P := Tryz.prog) Tryz.results126 _ _ w.heap.size 215 arr (0, 0) _ rfl hz' Tryz.underlying215 rfl hi) rfl ⟨by rw [HW.out], ?_⟩
          exact ⟨T.os, T.tape, T.output, by simpa using T.size, fun i hi q => by rw [setRow_other _ _ _ _ (by omega)]; exact T.block i hi q⟩
end Go.Proofs.YtmghliakheniiaaGreatDoor

