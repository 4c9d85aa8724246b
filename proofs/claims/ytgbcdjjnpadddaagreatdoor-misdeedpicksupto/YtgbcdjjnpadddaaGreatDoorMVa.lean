/- Texts in one. -/
import Derived.Test.YtgbcdjjnpadddaaGreatDoorBase
import Derived.Test.YtgbcdjjnpadddaaGreatDoorQU
import Derived.Test.YtgbcdjjnpadddaaGreatDoorRows
import Derived.ChangeKeysEq
import Derived.Laws.Rows
import Derived.Laws.ResultCell
import Derived.Deep.MidRow
import Derived.Deep.RegionHeld3
import Derived.Lib.Bytealg
import Derived.Laws.Externs
/- A vote as plain data and as cells; blocks of cells; arrays of bytes held against each other. -/
namespace Go.Proofs.YtgbcdjjnpadddaaGreatDoor
open Go.RowKit
set_option linter.unusedVariables false

theorem shut {p : Prop} (h : p) : Shut p := h
section
variable {w : World} {g : Nat} {cs : Array Value} {e : TypeId}
end
/-- Two votes, beside each other. -/
def evC (a b : Vt) : Array Value := (a.cs ++ b.cs).toArray
theorem evC_size {a b : Vt} (ha : a.ok) (hb : b.ok) : (evC a b).size = 106 := by simp [evC, a.len ha, b.len hb]

theorem size32 : (Tryz.prog.info? 52).map (·.size) = some 106 := by kernel_rfl
section
variable {P : Program} {ops : Array Oper} {rest : List Oper} {op : Oper} {a : Act} {w : World} {Q : Exit → Act → World → Prop}
end
end Go.Proofs.YtgbcdjjnpadddaaGreatDoor



/- PlainVote of the program and of the document. -/
namespace Go.Proofs.YtgbcdjjnpadddaaGreatDoor
open Go.RowKit
set_option linter.unusedVariables false

end Go.Proofs.YtgbcdjjnpadddaaGreatDoor



/- PlainVote of the document. -/
namespace Go.Proofs.YtgbcdjjnpadddaaGreatDoor
open Go.RowKit
set_option linter.unusedVariables false

end Go.Proofs.YtgbcdjjnpadddaaGreatDoor



/- Below, bytes.Compare, contradict. -/
namespace Go.Proofs.YtgbcdjjnpadddaaGreatDoor
open Go.RowKit
set_option linter.unusedVariables false

/-- Below, by its definition. -/
def ltB : List UInt8 → List UInt8 → Bool
  | a :: l, b :: m => if a = b then ltB l m else decide (a.toNat < b.toNat)
  | _, _ => false
theorem ltB_drop : ∀ (k : Nat) (X Y : List UInt8), k ≤ X.length → k ≤ Y.length → X.take k = Y.take k → ltB X Y = ltB (X.drop k) (Y.drop k)
  | 0, _, _, _, _, _ => by simp
  | k + 1, [], _, h, _, _ => by simp at h
  | k + 1, _ :: _, [], _, h, _ => by simp at h
  | k + 1, a :: X, b :: Y, h1, h2, h3 => by
    simp at h1 h2 h3
    obtain ⟨rfl, h3⟩ := h3
    simp only [List.drop_succ_cons, ltB, if_true]
    exact ltB_drop k X Y h1 h2 h3
theorem ltB_at {X Y : List UInt8} {k : Nat} (h1 : k < X.length) (h2 : k < Y.length) (h3 : X.take k = Y.take k) (hne : X[k] ≠ Y[k]) : ltB X Y = decide (X[k].toNat < Y[k].toNat) := by
  rw [ltB_drop k X Y (by omega) (by omega) h3, List.drop_eq_getElem_cons h1, List.drop_eq_getElem_cons h2]
  simp [ltB, hne]
theorem ltB_same (X : List UInt8) : ltB X X = false := by
  induction X with
  | nil => rfl
  | cons a X ih => simp [ltB, ih]
theorem take_succ_eq {X Y : List UInt8} {k : Nat} (h1 : k < X.length) (h2 : k < Y.length) (h3 : X.take k = Y.take k) (he : X[k] = Y[k]) : X.take (k + 1) = Y.take (k + 1) := by
  rw [List.take_succ_eq_append_getElem h1, List.take_succ_eq_append_getElem h2, h3, he]
theorem compare_lt : ∀ (X Y : List UInt8), X.length = Y.length → decide (0 < Lib.compareBytes X Y) = ltB Y X
  | [], [], _ => by simp [Lib.compareBytes, ltB]
  | [], _ :: _, h => by simp at h
  | _ :: _, [], h => by simp at h
  | a :: X, b :: Y, h => by
    have ih := compare_lt X Y (by simpa using h)
    unfold Lib.compareBytes ltB
    by_cases h1 : a < b
    · have h2 : ¬ b = a := fun q => by subst q; exact absurd h1 (UInt8.lt_irrefl _)
      have h3 : ¬ b.toNat < a.toNat := by have := UInt8.lt_iff_toNat_lt.1 h1; omega
      simp [h1, h2, h3]
    · by_cases h2 : b < a
      · have h3 : ¬ b = a := fun q => by subst q; exact absurd h2 (UInt8.lt_irrefl _)
        have h4 : b.toNat < a.toNat := UInt8.lt_iff_toNat_lt.1 h2
        simp [h1, h2, h3, h4]
      · have h3 : b = a := UInt8.toNat_inj.1 (by
          have q1 : ¬ a.toNat < b.toNat := fun q => h1 (UInt8.lt_iff_toNat_lt.2 q)
          have q2 : ¬ b.toNat < a.toNat := fun q => h2 (UInt8.lt_iff_toNat_lt.2 q)
          omega)
        simp [h3, ih]
set_option maxRecDepth 100000 in
set_option maxHeartbeats 4000000 in
theorem below13 (w : World) (X Y : List UInt8) (hx : X.length = 32) (hy : Y.length = 32) : Calls Tryz.prog 28 #[.agg (X.map bv).toArray, .agg (Y.map bv).toArray] w fun e w' => e = .returned (.bool (ltB X Y)) ∧ Turn no w w' := by
  have RX := (Row.new w (X.map bv).toArray 26).alloc (.cells (Y.map bv).toArray 26)
  have RY := Row.newAt (w.alloc (.cells (X.map bv).toArray 26)) (Y.map bv).toArray 26 (w.heap.size + 1) (by simp)
  have TT : Turn no w ((w.alloc (.cells (X.map bv).toArray 26)).alloc (.cells (Y.map bv).toArray 26)) := ((Turn.refl no w).alloc _).alloc _
  have g1 : ∀ (k : Nat) (h : k < X.length), ((w.alloc (.cells (X.map bv).toArray 26)).alloc (.cells (Y.map bv).toArray 26)).cell? ⟨w.heap.size, k, none⟩ = some (.int .u8 (X[k]'h).toNat) := fun k h => RX.cell k _ (by simp [h]; rfl)
  have g2 : ∀ (k : Nat) (h : k < Y.length), ((w.alloc (.cells (X.map bv).toArray 26)).alloc (.cells (Y.map bv).toArray 26)).cell? ⟨w.heap.size + 1, k, none⟩ = some (.int .u8 (Y[k]'h).toNat) := fun k h => RY.cell k _ (by simp [h]; rfl)
  have G1 := shut g1
  have G2 := shut g2
  have HT := shut TT
  have HX := shut hx
  have HY := shut hy
  clear RX RY g1 g2 TT hx hy
  generalize (X.map bv).toArray = A at *
  generalize (Y.map bv).toArray = B at *
  go_enter Tryz.func28, Tryz.ntmps28
  go_wp2
  generalize (w.alloc (.cells A 26)).alloc (.cells B 26) = w0 at *
  go_loopw [5] (fun i wr => ∃ k : Nat, k ≤ 32 ∧ i = .int .i64 k ∧ Hid (X.take k = Y.take k) ∧ ∃ n, wr = w0.drewN n) (fun i _ => 32 - (intOf i).toNat)
  case atStart => exact ⟨0, Nat.zero_le _, rfl, rfl, 0, rfl⟩
  case round =>
    obtain ⟨k, hk, rfl, Heq, n, rfl⟩ := hrel
    by_cases hlt : k < 32
    · have hkx : k < X.length := by have := HX.out; omega
      have hky : k < Y.length := by have := HY.out; omega
      have g1 := G1.out k hkx
      have g2 := G2.out k hky
      have hlt' : (k : Int) < 32 := by omega
      go_wp2
      go_quiet (fail)
      go_wp2
      · go_quiet (fail)
        go_wp2
        go_ret
        rw [ltB_at hkx hky Heq.out (u8_ne ‹_›)]
        exact ⟨rfl, ((HT.out.drewN _).drewN _).drewN _⟩
      · go_roundw
        case rel => exact ⟨k + 1, by omega, by go_num, take_succ_eq hkx hky Heq.out (u8_eq ‹_›), _, rfl⟩
        case measure => simp [intOf]; omega
    · have hlt' : ¬ (k : Int) < 32 := by omega
      go_wp2
      go_ret
      have e : X = Y := by
        have h := Heq.out
        have h1 := HX.out
        have h2 := HY.out
        rw [List.take_of_length_le (by omega), List.take_of_length_le (by omega)] at h
        exact h
      subst e
      rw [ltB_same]
      exact ⟨rfl, HT.out.drewN _⟩

theorem run_bytes {P : Program} (w : World) : ∀ (l : List UInt8) (a : Addr) (acc : ByteArray), (∀ j x, l[j]? = some x → w.cell? (a.add j) = some (bv x)) →
    (Extern.Bytes.loadBytes a l.length acc).run P w = .ok ⟨acc.data ++ l.toArray⟩ w
  | [], a, acc, _ => by simp [Extern.Bytes.loadBytes]
  | x :: l, a, acc, h => by
    have h0 : w.cell? a = some (.int .u8 x.toNat) := by
      have := h 0 x rfl
      simpa [Addr.add, bv] using this
    have ih := run_bytes (P := P) w l (a.add 1) (acc.push x) (fun j y hy => by
      have := h (j + 1) y (by simpa using hy)
      have e : (a.add 1).add j = a.add (j + 1) := by
        unfold Addr.add
        by_cases hj : j = 0
        · subst hj; simp
        · simp [hj]; omega
      rw [e]; exact this)
    have hx : ((x.toNat : Int).toNat).toUInt8 = x := by simp
    simp only [List.length_cons, Extern.Bytes.loadBytes, Sem.run_bind, run_load, h0, Result.andThen, hx]
    rw [ih]
    congr 1
    apply ByteArray.ext
    simp [ByteArray.push]
theorem run_bytesOf {P : Program} {w : World} (X : List UInt8) (g o c : Nat) (h : w.rangeAt g o (X.map bv)) : (Extern.Bytes.bytesOf (.slice (some ⟨g, o, none⟩) X.length c)).run P w = .ok ⟨X.toArray⟩ w := by
  have := run_bytes (P := P) w X ⟨g, o, none⟩ .empty (fun j x hx => by
    rw [Addr.add_mid]
    exact h j _ (by simp [hx]))
  simp only [Extern.Bytes.bytesOf]
  rw [this]
  congr 1
  apply ByteArray.ext
  show (#[] : Array UInt8) ++ X.toArray = X.toArray
  simp
set_option maxRecDepth 100000 in
theorem compare11 (w : World) (X Y : List UInt8) (g o g' o' : Nat) (hx : X.length = 32) (hy : Y.length = 32) (h1 : w.rangeAt g o (X.map bv)) (h2 : w.rangeAt g' o' (Y.map bv)) :
    Calls Tryz.prog 46 #[.slice (some ⟨g, o, none⟩) 32 32, .slice (some ⟨g', o', none⟩) 32 32] w fun e w' => e = .returned (.int .i64 (Lib.compareBytes X Y)) ∧ w = w' := by
  have hr : (Extern.BytealgCompare.compare #[.slice (some ⟨g, o, none⟩) 32 32, .slice (some ⟨g', o', none⟩) 32 32]).run Tryz.prog w = .ok (.int .i64 (Lib.compareBytes X Y)) w := by
    have e1 := run_bytesOf (P := Tryz.prog) X g o 32 h1
    have e2 := run_bytesOf (P := Tryz.prog) Y g' o' 32 h2
    rw [hx] at e1
    rw [hy] at e2
    change Sem.run Tryz.prog (do pure (goInt (Extern.BytealgCompare.cmp (← Extern.Bytes.bytesOf (.slice (some ⟨g, o, none⟩) 32 32)) (← Extern.Bytes.bytesOf (.slice (some ⟨g', o', none⟩) 32 32))))) w = _
    simp only [Sem.run_bind, Sem.run_pure, Result.andThen, e1, e2, Lib.cmp_eq]
    rfl
  go_enter Tryz.func46, Tryz.ntmps46
  go_wp2
  rw [run_callFunc_extern Tryz.func77 (by kernel_rfl) (by kernel_rfl) (by kernel_rfl) (e := Extern.BytealgCompare.compare) (by kernel_rfl), hr]
  simp only [Result.andThen]
  rw [Oper.upon_value]
  go_wp2
  go_ret
  exact ⟨rfl, rfl⟩

/-- Do two votes contradict each other? -/
def conB (a b : Vt) : Bool := a.f == b.f && a.h == b.h && a.r == b.r && a.k == b.k && !(a.id == b.id)
theorem cut5 {p : Prop} (a b c d : Bool) (h1 : a = false → p) (h2 : a = true → b = false → p) (h3 : a = true → b = true → c = false → p) (h4 : a = true → b = true → c = true → d = false → p) (h5 : a = true → b = true → c = true → d = true → p) : p := by
  cases a
  · exact h1 rfl
  · cases b
    · exact h2 rfl rfl
    · cases c
      · exact h3 rfl rfl rfl
      · cases d
        · exact h4 rfl rfl rfl rfl
        · exact h5 rfl rfl rfl rfl
set_option maxRecDepth 100000 in
set_option maxHeartbeats 4000000 in
theorem con10 (w : World) (a b : Vt) (ha : a.ok) (hb : b.ok) : Calls Tryz.prog 45 #[.agg a.cs.toArray, .agg b.cs.toArray] w fun e w' => e = .returned (.bool (conB a b)) ∧ Turn no w w' := by
  obtain ⟨a0, a1, a2, _, a36, aid⟩ := ((Row.new w a.cs.toArray 50).alloc (.cells b.cs.toArray 50)).vt ha
  obtain ⟨b0, b1, b2, _, b36, bid⟩ := (Row.newAt (w.alloc (.cells a.cs.toArray 50)) b.cs.toArray 50 (w.heap.size + 1) (by simp)).vt hb
  have hia : (Tryz.prog.info? 26).map (·.size) = some (a.id.map bv).length := by rw [List.length_map, ha.1]; exact qsize24
  have hib : (Tryz.prog.info? 26).map (·.size) = some (b.id.map bv).length := by rw [List.length_map, hb.1]; exact qsize24
  have he := fun W => eqIn24 W 9998 a.id b.id ha.1 hb.1
  have TT : Turn no w ((w.alloc (.cells a.cs.toArray 50)).alloc (.cells b.cs.toArray 50)) := ((Turn.refl no w).alloc _).alloc _
  have HT := shut TT
  unfold conB
  generalize a.cs.toArray = CA at *
  generalize b.cs.toArray = CB at *
  generalize (a.id == b.id) = B at *
  generalize a.id.map bv = DA at *
  generalize b.id.map bv = DB at *
  generalize a.k = ak at *
  generalize a.h = ah at *
  generalize a.r = ar at *
  generalize a.f = af at *
  generalize b.k = bk at *
  generalize b.h = bh at *
  generalize b.r = br at *
  generalize b.f = bf at *
  clear TT ha hb
  refine cut5 (af == bf) (ah == bh) (ar == br) (ak == bk) ?_ ?_ ?_ ?_ ?_ <;> intros
  · clear aid bid hia hib he
    go_enter Tryz.func45, Tryz.ntmps45
    go_wp2_with fail
    go_ret
    exact ⟨by simp [*], HT.out⟩
  · clear aid bid hia hib he
    go_enter Tryz.func45, Tryz.ntmps45
    go_wp2_with fail
    go_ret
    exact ⟨by simp [*], HT.out⟩
  · clear aid bid hia hib he
    go_enter Tryz.func45, Tryz.ntmps45
    go_wp2_with fail
    go_ret
    exact ⟨by simp [*], HT.out⟩
  · clear aid bid hia hib he
    go_enter Tryz.func45, Tryz.ntmps45
    go_wp2_with fail
    go_ret
    exact ⟨by simp [*], HT.out⟩
  · go_enter Tryz.func45, Tryz.ntmps45
    go_wp2_with (first | (refine wpList_load_midG (by rfl) 26 (.tmp 32) rfl w.heap.size 3 rfl DA _ aid Tryz.underlying26 rfl hia ?_) | (refine wpList_load_midG (by rfl) 26 (.tmp 34) rfl (w.heap.size + 1) 3 rfl DB _ bid Tryz.underlying26 rfl hib ?_))
    go_ret
    exact ⟨by simp [*], HT.out⟩
end Go.Proofs.YtgbcdjjnpadddaaGreatDoor


