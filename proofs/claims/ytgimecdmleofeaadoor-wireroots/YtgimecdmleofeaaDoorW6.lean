/- Walks: lay and read where nothing was made; alive. -/
import Derived.Test.YtgimecdmleofeaaDoorW5
import Derived.Lib.ConvBytes
namespace Go.Proofs.YtgimecdmleofeaaDoor
open Go.RowKit

theorem foldl_bytes : ∀ (l : List UInt8) (s : ByteArray), (l.map fun b => (b.toNat : Int)).foldl (fun r n => r.push (UInt8.ofNat n.toNat)) s = ⟨s.data ++ l.toArray⟩
  | [], s => by simp
  | b :: l, s => by
    rw [List.map_cons, List.foldl_cons, foldl_bytes l]
    simp [ByteArray.push]

/-- A slice of bytes turned into a text. -/
theorem bytes_text {w : World} {v : Value} {bs : List UInt8} (hb : Bs w v bs) : (convert 70 9 v).run Tryd.prog w = .ok (.string ⟨bs.toArray⟩) w := by
  obtain ⟨a, c, hv⟩ := hb.slice
  subst hv
  rw [run_convert_bytes_string w 70 9 5 a bs.length c Tryd.underlying70 Tryd.underlying5 Tryd.underlying9]
  rcases hb with ⟨h, rfl⟩ | ⟨a', c', h, _, _, h3⟩
  · cases h
    simp [Conv.bytesToString]
    rfl
  · cases h
    have hl := run_loadCells_list (P := Tryd.prog) w a' (bs.map bv) (fun j u hu => by
      rw [List.getElem?_map] at hu
      cases hb : bs[j]? with
      | none => rw [hb] at hu; cases hu
      | some b => rw [hb] at hu; cases hu; exact h3 j b hb)
    have e1 : bs.map bv = (bs.map fun b => (b.toNat : Int)).map (Value.int .u8) := by rw [List.map_map]; rfl
    rw [List.length_map, e1] at hl
    rw [run_bytesToString w a' bs.length c (bs.map fun b => (b.toNat : Int)) hl, foldl_bytes]
    simp

theorem bytesWorld_turn (w : World) (e : TypeId) (s : ByteArray) : Turn no w (Lib.bytesWorld w e s) :=
  ⟨rfl, rfl, rfl, by rw [Lib.bytesWorld_size]; omega, fun k hk _ => Lib.bytesWorld_at_old w e s k hk⟩

theorem bytesWorld_bs (w : World) (s : ByteArray) (hm : s.size ≤ maxLen) : Bs (Lib.bytesWorld w 5 s) (.slice (some ⟨w.heap.size, 0, none⟩) s.size (grownCap w s.size 0 5)) s.data.toList := by
  have hl : s.data.toList.length = s.size := by rw [Array.length_toList]; rfl
  refine Or.inr ⟨⟨w.heap.size, 0, none⟩, _, by rw [hl], by rw [hl]; exact grownCap_ge w _ _ _, grownCap_le_maxLen w _ _ _ hm, fun j u hu => ?_⟩
  have hj : j < s.data.toList.length := (List.getElem?_eq_some_iff.1 hu).1
  rw [Addr.add_lit, Nat.zero_add, Lib.bytesWorld_cell w 5 s j (by omega), List.getD_eq_getElem?_getD, hu]
  rfl

end Go.Proofs.YtgimecdmleofeaaDoor


