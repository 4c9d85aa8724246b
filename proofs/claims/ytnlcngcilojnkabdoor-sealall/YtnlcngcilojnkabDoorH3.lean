/- Hashers that were made: Sum, Copy. -/
import Derived.Test.YtnlcngcilojnkabDoorH2
import Derived.Deep.MidRow
namespace Go.Proofs.YtnlcngcilojnkabDoor
open Go.RowKit
set_option linter.unusedVariables false

theorem Hs.mixer {w : World} {p : Nat} {text : List UInt8} (h : Hs w p text) : ∃ (cs : List Value) (rest : List UInt8), w.rangeAt p 1 cs ∧ cs.length = 73 ∧ MxA cs.toArray 0 (shaW text) rest text.length ∧ rest.take (text.length % 64) = tailOf text := by
  obtain ⟨arr, rest, hr, ⟨hs, _⟩, hm, ht⟩ := h
  have hg : ∀ j, (arr.toList.drop 1).toArray[j]? = arr[1 + j]? := fun j => by simp [Nat.add_comm]
  refine ⟨arr.toList.drop 1, rest, fun j v hv => hr.cell (1 + j) v (by rw [List.getElem?_drop] at hv; simpa using hv), by simp [hs], ⟨fun j hj => ?_, hm.len, fun j hj => ?_, ?_⟩, ht⟩
  · rw [hg, show 1 + (0 + j) = 1 + j by omega]; exact hm.words j hj
  · rw [hg, show 1 + (0 + 8 + j) = 1 + 8 + j by omega]; exact hm.rest j hj
  · rw [hg, show 1 + (0 + 72) = 1 + 72 by omega]; exact hm.taken

set_option maxRecDepth 100000 in
set_option maxHeartbeats 4000000 in
theorem sum_made (w : World) (p : Nat) (text : List UInt8) (h : Hs w p text) (hl : Laid1 w) (h2 : 2 ≤ w.heap.size) (hsz : text.length + 72 ≤ 281474976710656) :
    Calls Tryd.prog 67 #[.pointer (some ⟨p, 0, none⟩)] w fun e w' => e = .returned (.agg (hv text)) ∧ Turn no w w' := by
  have hpl : p < w.heap.size := by obtain ⟨arr, rest, hr, _⟩ := h; exact hr.lt
  obtain ⟨z, hz, hzs⟩ : ∃ z : Array Value, z = #[.int .u8 0, .int .u8 0, .int .u8 0, .int .u8 0, .int .u8 0, .int .u8 0, .int .u8 0, .int .u8 0, .int .u8 0, .int .u8 0, .int .u8 0, .int .u8 0, .int .u8 0, .int .u8 0, .int .u8 0, .int .u8 0, .int .u8 0, .int .u8 0, .int .u8 0, .int .u8 0, .int .u8 0, .int .u8 0, .int .u8 0, .int .u8 0, .int .u8 0, .int .u8 0, .int .u8 0, .int .u8 0, .int .u8 0, .int .u8 0, .int .u8 0, .int .u8 0] ∧ z.size = 32 := ⟨_, rfl, rfl⟩
  have T0 : Turn no w (w.alloc (.cells z 125)) := (Turn.refl no w).alloc _
  have hm := made_made _ p text (h.turn T0 (fun q => q))
  have RZ := Row.new w z 125
  obtain ⟨cs, rest, hc, hcl, hA, ht⟩ := (h.turn T0 (fun q => q)).mixer
  have hi29 : (Tryd.prog.info? 137).map (·.size) = some cs.length := by rw [hcl]; exact size29
  have hsum := sum_any (w.alloc (.cells z 125)) cs.toArray text rest (by simpa using hcl) hA ht (hl.turn T0 (fun q => q)) (by have := T0.size; omega) hsz
  have hh : ((hashOf text).map bv).toArray = hv text := rfl
  rw [hh] at hsum
  have h1 := hv_one text
  have hs := hv_size text
  have hi := hv_info text
  clear hh
  generalize hv text = H at *
  clear hA ht h
  go_enter Tryd.func67, Tryd.ntmps67
  go_wp2_with fail
  rw [← hz]
  clear hz
  generalize w.alloc (.cells z 125) = w0 at *
  refine hm.mono ?_
  rintro e w1 ⟨rfl, rfl⟩
  go_wp2_with (refine wpList_load_mid rfl 137 (.tmp 9) rfl p 1 rfl cs _ hc Tryd.underlying137 rfl hi29 ?_)
  refine hsum.mono ?_
  rintro e w2 ⟨rfl, t2⟩
  have RZ2 := RZ.turn t2 (fun q => q)
  have T2 := T0.then_no t2
  go_wp2_with (refine wpList_store_row rfl 125 (.tmp 2) (.tmp 11) rfl w.heap.size H rfl rfl 125 z RZ2 hi (by omega) h1 ?_)
  refine bodyPost_ret (v := .agg H) ?_ rfl ⟨rfl, T2.setRow _ _ (fun q => by omega)⟩
  exact results_cell_row (P := Tryd.prog) Tryd.results67 _ _ w.heap.size 125 H (0, 0) _ rfl (setRow_heap _ _ _ _ _ _ RZ2) Tryd.underlying125 rfl hi

end Go.Proofs.YtnlcngcilojnkabDoor
