/- kept. -/
import Derived.Test.YtnibmkenbidnfaaDoorE6
import Derived.Lib.ConvBytes
namespace Go.Proofs.YtnibmkenbidnfaaDoor
open Go.RowKit
set_option linter.unusedVariables false

theorem foldl_bytes : ∀ (l : List UInt8) (s : ByteArray), (l.map fun b => (b.toNat : Int)).foldl (fun r n => r.push (UInt8.ofNat n.toNat)) s = ⟨s.data ++ l.toArray⟩
  | [], s => by simp
  | b :: l, s => by
    rw [List.map_cons, List.foldl_cons, foldl_bytes l]
    simp [ByteArray.push]

/-- A slice of bytes turned into a text. -/
theorem bytes_text {w : World} {v : Value} {bs : List UInt8} (hb : Bs w v bs) : (convert 22 9 v).run Tryd.prog w = .ok (.string ⟨bs.toArray⟩) w := by
  obtain ⟨a, c, hv⟩ := hb.slice
  subst hv
  rw [run_convert_bytes_string w 22 9 5 a bs.length c Tryd.underlying22 Tryd.underlying5 Tryd.underlying9]
  rcases hb with ⟨h, rfl⟩ | ⟨a', c', h, _, _, h3⟩
  · cases h
    simp [Conv.bytesToString]
    rfl
  · cases h
    have hl := run_loadCells_list (P := Tryd.prog) w a' (bs.map bv) (fun j u hu => by
      rw [List.getElem?_map] at hu
      cases hb : bs[j]? with
      | none => rw [hb] at hu; cases hu
      | some b => rw [hb] at hu; cases hu; exact h3 j b hb)
    have e1 : bs.map bv = (bs.map fun b => (b.toNat : Int)).map (Value.int .u8) := by rw [List.map_map]; rfl
    rw [List.length_map, e1] at hl
    rw [run_bytesToString w a' bs.length c (bs.map fun b => (b.toNat : Int)) hl, foldl_bytes]
    simp

set_option maxRecDepth 100000 in
set_option maxHeartbeats 4000000 in
theorem kept_any (w : World) (vf va : Value) (bs : List UInt8) (hf : Bs w vf (bs ++ [201, 202])) (hb : Bs w va bs) (hsz : bs.length + 2 ≤ 140737488355328) :
    Calls Tryd.prog 17 #[vf, va] w fun e w' => e = .returned (.bool true) ∧ ∃ n, w' = w.drewN n := by
  obtain ⟨fb, fo, fc, rfl, hfc, hfat⟩ := hf.at (by simp)
  have hlen : (bs ++ [201, 202]).length = bs.length + 2 := by simp
  have hcut := bs_cut hf bs.length (by simp)
  rw [List.take_left' rfl] at hcut
  have c1 : w.cell? ⟨fb, fo + bs.length, none⟩ = some (.int .u8 201) := by
    have := hfat bs.length (by simp)
    simpa using this
  have c2 : w.cell? ⟨fb, fo + (bs.length + 1), none⟩ = some (.int .u8 202) := by
    have := hfat (bs.length + 1) (by simp)
    simpa using this
  rw [hlen] at hfc ⊢
  have hcv1 := fun x => bytes_text (hcut.turn_no ((Turn.refl no w).drewN x))
  have hcv2 := fun x => bytes_text (hb.turn_no ((Turn.refl no w).drewN x))
  obtain ⟨a, c, rfl⟩ := hb.slice
  generalize (⟨bs.toArray⟩ : ByteArray) = tx at *
  obtain ⟨n, hn⟩ : ∃ n, n = bs.length := ⟨_, rfl⟩
  simp only [← hn] at *
  clear hn hfat hlen hcut hf hb
  have hn1 : (n : Int) ≤ (fc : Int) := by omega
  have hn2 : n ≤ fc := by omega
  have hn3 : (((n + 2 : Nat) : Int) == (n : Int) + 2) = true := by simp
  have hn4 : (n : Int) < ((n + 2 : Nat) : Int) := by omega
  have hn5 : (n : Int) + 1 < ((n + 2 : Nat) : Int) := by omega
  go_enter Tryd.func17, Tryd.ntmps17
  go_wp2_with fail
  go_quiet (fail)
  go_wp2_with fail
  go_ret
  exact ⟨rfl, _, rfl⟩
end Go.Proofs.YtnibmkenbidnfaaDoor
