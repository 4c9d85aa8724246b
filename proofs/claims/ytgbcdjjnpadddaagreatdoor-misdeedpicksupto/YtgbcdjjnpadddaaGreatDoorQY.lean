/- Texts in one. -/
import Derived.Test.YtgbcdjjnpadddaaGreatDoorQW
import Derived.Test.YtgbcdjjnpadddaaGreatDoorQT1
import Derived.Test.YtgbcdjjnpadddaaGreatDoorQT
import Derived.Deep.RegionHeld
/- The document's Writer; paper. -/
namespace Go.Proofs.YtgbcdjjnpadddaaGreatDoor
open Go.RowKit
set_option linter.unusedVariables false

set_option maxRecDepth 100000 in
theorem rtext63 (w : World) (B : List UInt8) (hle : B.length + 20 ≤ 140737488355328) : Calls Tryz.prog 82 #[.string ⟨B.toArray⟩] w fun e w' => ∃ v, e = .returned v ∧ Fr w w' v (varE B.length ++ B) := by
  have cv := rvar61 w B.length (by omega)
  have hvl := varE_le B.length
  have hcv := fun W => Lib.run_convert_string_bytes (P := Tryz.prog) W 9 124 5 ⟨B.toArray⟩ Tryz.underlying9 Tryz.underlying124 Tryz.underlying5
  obtain ⟨x, hx⟩ : ∃ x : ByteArray, (⟨B.toArray⟩ : ByteArray) = x := ⟨_, rfl⟩
  have hxl : x.size = B.length := by rw [← hx]; simp [ByteArray.size]
  have hxd : x.data.toList = B := by rw [← hx]
  have hsr := fun W => (bytesWorld_bs W x (by rw [hxl]; unfold maxLen; omega)).src (P := Tryz.prog) Tryz.underlying124
  rw [hxd] at hsr
  have hbt := fun W => bytesWorld_turn W 5 x
  rw [hx] at hcv ⊢
  obtain ⟨N, hN⟩ : ∃ N, B.length = N := ⟨_, rfl⟩
  rw [hN] at hsr cv hle hvl hxl ⊢
  simp only [hxl] at hsr hcv
  have Hsr := shutX hsr
  have Hbt := shutX hbt
  clear hsr hN hbt hxd hx
  have hN63 : (N : Int) < 18446744073709551616 := by omega
  have hxi : (x.size : Int) = (N : Int) := by omega
  clear hxl
  generalize varE N = E at *
  go_enter Tryz.func82, Tryz.ntmps82
  go_wp2_with (first | (go_at_call 109; refine cv.mono ?_; rintro e w1 ⟨v, rfl, F⟩; obtain ⟨ad, ln, cp, rfl⟩ := F.form) | (at_builtin; refine wpList_append_src rfl (.tmp 6) (.tmp 8) rfl Tryz.underlying124 Tryz.info5q rfl _ (E.map bv) rfl (F.own.turn_no (Hbt.out w1)) _ N (B.map bv) rfl (Hsr.out w1) ?b ?m ?_; rotate_left 2; intro v1 w1' o1 g1 _))
  case b => first | omega | (simp; omega)
  case m => first | (unfold maxLen; omega) | (simp [maxLen]; omega)
  have F1 := F.append (Hbt.out _) o1 g1
  obtain ⟨ad, ln, cp, rfl⟩ := o1.form
  go_wp2_with fail
  go_ret
  exact ⟨_, rfl, F1⟩

section
variable {w : World} {q : Nat} {v : Value} {bs : List UInt8} {e : Int}
end
end Go.Proofs.YtgbcdjjnpadddaaGreatDoor




/- The document's Out; paper. -/
namespace Go.Proofs.YtgbcdjjnpadddaaGreatDoor
open Go.RowKit
set_option linter.unusedVariables false

theorem fr_empty (w : World) : Fr w (w.alloc (.cells #[] 5)) (.slice (some ⟨w.heap.size, 0, none⟩) 0 0) [] :=
  ⟨own_empty w 5, fun g q => (by simp [Value.ownBlock] at q; omega), (Turn.refl _ _).alloc _⟩
theorem fr_one (w : World) (b : UInt8) : Fr w (w.alloc (.cells #[bv b] 5)) (.slice (some ⟨w.heap.size, 0, none⟩) 1 1) [b] :=
  ⟨Own.of (xs := [bv b]) (cap := 1) (heap_alloc_new w _) (by simp) (by simp [maxLen]) (by simp) (by simp), fun g q => (by simp [Value.ownBlock] at q; omega), (Turn.refl _ _).alloc _⟩
/-- A value laid down by the document. -/
theorem enc_0' {k : Int} {n : Nat} {B : List UInt8} (hk : k % 9 = 0) : enc k n B = (leB (n % 256) 1, 0) := by unfold enc; rw [if_pos hk]
theorem enc_1' {k : Int} {n : Nat} {B : List UInt8} (hk : k % 9 = 1) : enc k n B = (leB (n % 2) 1, 0) := by unfold enc; rw [if_neg (by omega)]; rw [if_pos hk]
theorem enc_2' {k : Int} {n : Nat} {B : List UInt8} (hk : k % 9 = 2) : enc k n B = (leB (n % 4294967296) 4, 0) := by unfold enc; rw [if_neg (by omega)]; rw [if_neg (by omega)]; rw [if_pos hk]
theorem enc_3' {k : Int} {n : Nat} {B : List UInt8} (hk : k % 9 = 3) : enc k n B = (leB n 8, 0) := by unfold enc; rw [if_neg (by omega)]; rw [if_neg (by omega)]; rw [if_neg (by omega)]; rw [if_pos hk]
theorem enc_4' {k : Int} {n : Nat} {B : List UInt8} (hk : k % 9 = 4) : enc k n B = (varE n, 0) := by unfold enc; rw [if_neg (by omega)]; rw [if_neg (by omega)]; rw [if_neg (by omega)]; rw [if_neg (by omega)]; rw [if_pos hk]
theorem enc_5' {k : Int} {n : Nat} {B : List UInt8} (hk : k % 9 = 5) : enc k n B = (B, 0) := by unfold enc; rw [if_neg (by omega)]; rw [if_neg (by omega)]; rw [if_neg (by omega)]; rw [if_neg (by omega)]; rw [if_neg (by omega)]; rw [if_pos hk]
theorem enc_6' {k : Int} {n : Nat} {B : List UInt8} (hk : k % 9 = 6) : enc k n B = (varE B.length ++ B, 0) := by unfold enc; rw [if_neg (by omega)]; rw [if_neg (by omega)]; rw [if_neg (by omega)]; rw [if_neg (by omega)]; rw [if_neg (by omega)]; rw [if_neg (by omega)]; rw [if_pos hk]
theorem enc_7' {k : Int} {n : Nat} {B : List UInt8} (hk : k % 9 = 7) : enc k n B = (varE B.length ++ B, 0) := by unfold enc; rw [if_neg (by omega)]; rw [if_neg (by omega)]; rw [if_neg (by omega)]; rw [if_neg (by omega)]; rw [if_neg (by omega)]; rw [if_neg (by omega)]; rw [if_neg (by omega)]; rw [if_pos hk]
theorem enc_8' {k : Int} {n : Nat} {B : List UInt8} (hk : k % 9 = 8) : enc k n B = if n < 9223372036854775808 then (varE n, 0) else ([], 2) := by unfold enc; rw [if_neg (by omega)]; rw [if_neg (by omega)]; rw [if_neg (by omega)]; rw [if_neg (by omega)]; rw [if_neg (by omega)]; rw [if_neg (by omega)]; rw [if_neg (by omega)]; rw [if_neg (by omega)]; 
end Go.Proofs.YtgbcdjjnpadddaaGreatDoor




/- PlainTx of the document; named; its parts. -/
namespace Go.Proofs.YtgbcdjjnpadddaaGreatDoor
open Go.RowKit
set_option linter.unusedVariables false

end Go.Proofs.YtgbcdjjnpadddaaGreatDoor



/- The document's parts: named, num, sealed, join. -/
namespace Go.Proofs.YtgbcdjjnpadddaaGreatDoor
open Go.RowKit
set_option linter.unusedVariables false

theorem named35 (w : World) (ch : ByteArray) : Calls Tryz.prog 80 #[.string ch] w fun e w' => e = .returned (.bool (cB ch)) ∧ w = w' := by
  unfold cB
  by_cases h1 : (1 : Int) ≤ (ch.size : Int)
  · go_enter Tryz.func80, Tryz.ntmps80
    go_wp2_with fail
    go_ret
    exact ⟨by simp [h1], rfl⟩
  · go_enter Tryz.func80, Tryz.ntmps80
    go_wp2_with fail
    go_ret
    exact ⟨by simp; omega, rfl⟩
theorem num79 (w : World) (n : Nat) (hn : n < 18446744073709551616) : Calls Tryz.prog 111 #[.int .u64 n] w fun e w' => ∃ v, e = .returned v ∧ Fr w w' v (varE n) := by
  have C := rvar61 w n hn
  go_enter Tryz.func111, Tryz.ntmps111
  go_wp2_with (go_at_call 109; refine C.mono ?_; rintro e w1 ⟨v1, rfl, F1⟩; obtain ⟨a, l, c, rfl⟩ := F1.form)
  go_ret
  exact ⟨_, rfl, F1⟩
theorem sealed80 (w : World) (X : Array Value) : Calls Tryz.prog 113 #[.agg X, .bool false] w fun e w' => e = .returned (.slice none 0 0) ∧ Turn no w w' := by
  go_enter Tryz.func113, Tryz.ntmps113
  go_wp2_with fail
  go_ret
  exact ⟨rfl, (Turn.refl no w).alloc _⟩
/-- Lists of bytes, one behind the other. -/
def Ls (w : World) (g : Nat) (L : List (Value × List UInt8)) : Prop := (∀ (j : Nat) (x : Value × List UInt8), L[j]? = some x → w.cell? ⟨g, j, none⟩ = some x.1 ∧ Bs w x.1 x.2)
theorem Ls.turn_no {w w' : World} {g : Nat} {L : List (Value × List UInt8)} (h : Ls w g L) (t : Turn no w w') : Ls w' g L := fun j x hx => ⟨t.keep (h j x hx).1 (fun q => q), (h j x hx).2.turn_no t⟩
def catL (L : List (Value × List UInt8)) : List UInt8 := L.flatMap (·.2)
theorem catL_take (L : List (Value × List UInt8)) (k : Nat) (x : Value × List UInt8) (h : L[k]? = some x) : catL (L.take (k + 1)) = catL (L.take k) ++ x.2 := by
  unfold catL
  rw [List.take_add_one, h]
  simp
theorem catL_le (L : List (Value × List UInt8)) (k : Nat) : (catL (L.take k)).length ≤ (catL L).length := by
  have : catL L = catL (L.take k) ++ catL (L.drop k) := by unfold catL; rw [← List.flatMap_append, List.take_append_drop]
  rw [this]
  simp
set_option maxRecDepth 100000 in
set_option maxHeartbeats 2000000 in
theorem join78 (w : World) (g cap : Nat) (L : List (Value × List UInt8)) (h : Ls w g L) (hl : L.length ≤ 100) (hB : (catL L).length ≤ 140737488355328) :
    Calls Tryz.prog 110 #[.slice (some ⟨g, 0, none⟩) L.length cap] w fun e w' => ∃ v, e = .returned v ∧ Fr w w' v (catL L) := by
  obtain ⟨n, hn⟩ : ∃ n, L.length = n := ⟨_, rfl⟩
  rw [hn] at hl ⊢
  have HN := shutX hn
  have HH := shutX h
  have HB := shutX hB
  clear hn h hB
  go_enter Tryz.func110, Tryz.ntmps110
  go_wp2_with fail
  go_loopw [3, 4] (fun v i wr => ∃ k : Nat, k ≤ n ∧ i = .int .i64 k ∧ Fr w wr v (catL (L.take k))) (fun _ i _ => n - (intOf i).toNat)
  case atStart => exact ⟨0, Nat.zero_le _, rfl, by simpa [catL] using Fr.nil w⟩
  case round =>
    obtain ⟨k, hk, rfl, F⟩ := hrel
    by_cases hlt : k < n
    · have hlt' : (k : Int) < (n : Int) := by omega
      obtain ⟨x, hx⟩ : ∃ x, L[k]? = some x := ⟨L[k]'(by rw [HN.out]; exact hlt), List.getElem?_eq_getElem _⟩
      obtain ⟨ck, bk⟩ := (HH.out.turn_no F.turn) k x hx
      have e1 := catL_take L k x hx
      have hle : (catL (L.take k)).length + x.2.length ≤ 140737488355328 := by
        have := catL_le L (k + 1)
        rw [e1, List.length_append] at this
        have := HB.out
        omega
      have E1 := shutX e1
      obtain ⟨a1, c1, hv⟩ := bk.slice
      have hsr := bk.src (P := Tryz.prog) Tryz.underlying124
      obtain ⟨av, lv, cv, rfl⟩ := F.form
      generalize catL (L.take k) = A at *
      rw [hv] at ck hsr
      have HS := shutX hsr
      generalize x.2.length = xn at *
      clear e1 hsr hx bk hv
      go_wp2_with (at_builtin; refine wpList_append_src rfl (.tmp 11) (.tmp 15) rfl Tryz.underlying124 Tryz.info5q rfl _ (A.map bv) rfl F.own _ xn (x.2.map bv) rfl HS.out ?bb ?mm ?_)
      case bb => simp; omega
      case mm => simp [maxLen]; omega
      intro v1 w1 o1 g1 _
      have F1 := F.append (ys := x.2) (Turn.refl _ _) o1 g1
      obtain ⟨ad, ln, cp, rfl⟩ := o1.form
      clear o1 g1 F
      rw [← E1.out] at F1
      go_wp2_with fail
      go_roundw
      case rel => exact ⟨k + 1, by omega, by go_num, F1⟩
      case measure => simp [intOf]; omega
    · obtain rfl : k = n := by omega
      have hlt' : ¬ (k : Int) < (k : Int) := by omega
      have e2 : catL (L.take k) = catL L := by rw [List.take_of_length_le (by rw [HN.out]; omega)]
      rw [e2] at F
      obtain ⟨av, lv, cv, rfl⟩ := F.form
      go_wp2_with fail
      go_ret
      exact ⟨_, rfl, F⟩
end Go.Proofs.YtgbcdjjnpadddaaGreatDoor



/- tx of the document. -/
namespace Go.Proofs.YtgbcdjjnpadddaaGreatDoor
open Go.RowKit
set_option linter.unusedVariables false

def txB' (b0 : UInt8) (fr tt am fe nn : Nat) : List UInt8 := [b0] ++ (varE fr ++ (varE tt ++ (varE am ++ (varE fe ++ varE nn))))
theorem fin_new {w w1 X X2 X3 : World} {v : Value} {B : List UInt8} (t0 : Turn no w w1) (t1 : Turn no w1 X) (t2 : Turn no X X2) (F : Fr X2 X3 v B) (g : Nat) (hg : v.ownBlock = some g) : w.heap.size ≤ g :=
  Nat.le_trans ((t0.then_no t1).then_no t2).size (F.new g hg)
theorem txB_eq {x : Tx} {b0 : UInt8} (hb : x.k = (b0.toNat : Int)) : txB x = txB' b0 x.fr x.to x.am x.fe x.no := by
  unfold txB txB'
  rw [hb, Int.toNat_natCast]
  have : leB b0.toNat 1 = [b0] := by simp [leB]
  rw [this]
end Go.Proofs.YtgbcdjjnpadddaaGreatDoor



/- What is signed, by the document. -/
namespace Go.Proofs.YtgbcdjjnpadddaaGreatDoor
open Go.RowKit
set_option linter.unusedVariables false

theorem txB_len (x : Tx) : (txB x).length ≤ 60 := by
  have b1 := varE_le x.fr; have b2 := varE_le x.to; have b3 := varE_le x.am; have b4 := varE_le x.fe; have b5 := varE_le x.no
  simp only [txB, List.length_append, leB_length]
  omega
theorem text37 (w : World) (ch : ByteArray) (h : ch.size ≤ 16) : Calls Tryz.prog 82 #[.string ch] w fun e w' => ∃ v, e = .returned v ∧ Fr w w' v (varE ch.size ++ ch.data.toList) := by
  have := rtext63 w ch.data.toList (by rw [Array.length_toList]; have : ch.data.size = ch.size := rfl; omega)
  have e1 : (⟨ch.data.toList.toArray⟩ : ByteArray) = ch := by cases ch; simp
  have e2 : ch.data.toList.length = ch.size := by rw [Array.length_toList]; rfl
  rw [e1, e2] at this
  exact this
end Go.Proofs.YtgbcdjjnpadddaaGreatDoor


