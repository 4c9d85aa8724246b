/- Below, bytes.Compare, contradict. -/
import Derived.Test.YtdgfkaoohfdmfaaGreatDoorV0
import Derived.Laws.Externs
namespace Go.Proofs.YtdgfkaoohfdmfaaGreatDoor
open Go.RowKit
set_option linter.unusedVariables false

/-- Below, by its definition. -/
def ltB : List UInt8 → List UInt8 → Bool
  | a :: l, b :: m => if a = b then ltB l m else decide (a.toNat < b.toNat)
  | _, _ => false
theorem ltB_drop : ∀ (k : Nat) (X Y : List UInt8), k ≤ X.length → k ≤ Y.length → X.take k = Y.take k → ltB X Y = ltB (X.drop k) (Y.drop k)
  | 0, _, _, _, _, _ => by simp
  | k + 1, [], _, h, _, _ => by simp at h
  | k + 1, _ :: _, [], _, h, _ => by simp at h
  | k + 1, a :: X, b :: Y, h1, h2, h3 => by
    simp at h1 h2 h3
    obtain ⟨rfl, h3⟩ := h3
    simp only [List.drop_succ_cons, ltB, if_true]
    exact ltB_drop k X Y h1 h2 h3
theorem ltB_at {X Y : List UInt8} {k : Nat} (h1 : k < X.length) (h2 : k < Y.length) (h3 : X.take k = Y.take k) (hne : X[k] ≠ Y[k]) : ltB X Y = decide (X[k].toNat < Y[k].toNat) := by
  rw [ltB_drop k X Y (by omega) (by omega) h3, List.drop_eq_getElem_cons h1, List.drop_eq_getElem_cons h2]
  simp [ltB, hne]
theorem ltB_same (X : List UInt8) : ltB X X = false := by
  induction X with
  | nil => rfl
  | cons a X ih => simp [ltB, ih]
theorem take_succ_eq {X Y : List UInt8} {k : Nat} (h1 : k < X.length) (h2 : k < Y.length) (h3 : X.take k = Y.take k) (he : X[k] = Y[k]) : X.take (k + 1) = Y.take (k + 1) := by
  rw [List.take_succ_eq_append_getElem h1, List.take_succ_eq_append_getElem h2, h3, he]
theorem compare_lt : ∀ (X Y : List UInt8), X.length = Y.length → decide (0 < Lib.compareBytes X Y) = ltB Y X
  | [], [], _ => by simp [Lib.compareBytes, ltB]
  | [], _ :: _, h => by simp at h
  | _ :: _, [], h => by simp at h
  | a :: X, b :: Y, h => by
    have ih := compare_lt X Y (by simpa using h)
    unfold Lib.compareBytes ltB
    by_cases h1 : a < b
    · have h2 : ¬ b = a := fun q => by subst q; exact absurd h1 (UInt8.lt_irrefl _)
      have h3 : ¬ b.toNat < a.toNat := by have := UInt8.lt_iff_toNat_lt.1 h1; omega
      simp [h1, h2, h3]
    · by_cases h2 : b < a
      · have h3 : ¬ b = a := fun q => by subst q; exact absurd h2 (UInt8.lt_irrefl _)
        have h4 : b.toNat < a.toNat := UInt8.lt_iff_toNat_lt.1 h2
        simp [h1, h2, h3, h4]
      · have h3 : b = a := UInt8.toNat_inj.1 (by
          have q1 : ¬ a.toNat < b.toNat := fun q => h1 (UInt8.lt_iff_toNat_lt.2 q)
          have q2 : ¬ b.toNat < a.toNat := fun q => h2 (UInt8.lt_iff_toNat_lt.2 q)
          omega)
        simp [h3, ih]
theorem u8_eq {a b : UInt8} (h : ((a.toNat : Int) != (b.toNat : Int)) = false) : a = b := UInt8.toNat_inj.1 (by simp at h; omega)
theorem u8_ne {a b : UInt8} (h : ((a.toNat : Int) != (b.toNat : Int)) = true) : a ≠ b := fun q => by subst q; simp at h

theorem run_bytes {P : Program} (w : World) : ∀ (l : List UInt8) (a : Addr) (acc : ByteArray), (∀ j x, l[j]? = some x → w.cell? (a.add j) = some (bv x)) →
    (Extern.Bytes.loadBytes a l.length acc).run P w = .ok ⟨acc.data ++ l.toArray⟩ w
  | [], a, acc, _ => by simp [Extern.Bytes.loadBytes]
  | x :: l, a, acc, h => by
    have h0 : w.cell? a = some (.int .u8 x.toNat) := by
      have := h 0 x rfl
      simpa [Addr.add, bv] using this
    have ih := run_bytes (P := P) w l (a.add 1) (acc.push x) (fun j y hy => by
      have := h (j + 1) y (by simpa using hy)
      have e : (a.add 1).add j = a.add (j + 1) := by
        unfold Addr.add
        by_cases hj : j = 0
        · subst hj; simp
        · simp [hj]; omega
      rw [e]; exact this)
    have hx : ((x.toNat : Int).toNat).toUInt8 = x := by simp
    simp only [List.length_cons, Extern.Bytes.loadBytes, Sem.run_bind, run_load, h0, Result.andThen, hx]
    rw [ih]
    congr 1
    apply ByteArray.ext
    simp [ByteArray.push]
theorem run_bytesOf {P : Program} {w : World} (X : List UInt8) (g o c : Nat) (h : w.rangeAt g o (X.map bv)) : (Extern.Bytes.bytesOf (.slice (some ⟨g, o, none⟩) X.length c)).run P w = .ok ⟨X.toArray⟩ w := by
  have := run_bytes (P := P) w X ⟨g, o, none⟩ .empty (fun j x hx => by
    rw [Addr.add_mid]
    exact h j _ (by simp [hx]))
  simp only [Extern.Bytes.bytesOf]
  rw [this]
  congr 1
  apply ByteArray.ext
  show (#[] : Array UInt8) ++ X.toArray = X.toArray
  simp
set_option maxRecDepth 100000 in
theorem compare11 (w : World) (X Y : List UInt8) (g o g' o' : Nat) (hx : X.length = 32) (hy : Y.length = 32) (h1 : w.rangeAt g o (X.map bv)) (h2 : w.rangeAt g' o' (Y.map bv)) :
    Calls Tryz.prog 69 #[.slice (some ⟨g, o, none⟩) 32 32, .slice (some ⟨g', o', none⟩) 32 32] w fun e w' => e = .returned (.int .i64 (Lib.compareBytes X Y)) ∧ w = w' := by
  have hr : (Extern.BytealgCompare.compare #[.slice (some ⟨g, o, none⟩) 32 32, .slice (some ⟨g', o', none⟩) 32 32]).run Tryz.prog w = .ok (.int .i64 (Lib.compareBytes X Y)) w := by
    have e1 := run_bytesOf (P := Tryz.prog) X g o 32 h1
    have e2 := run_bytesOf (P := Tryz.prog) Y g' o' 32 h2
    rw [hx] at e1
    rw [hy] at e2
    change Sem.run Tryz.prog (do pure (goInt (Extern.BytealgCompare.cmp (← Extern.Bytes.bytesOf (.slice (some ⟨g, o, none⟩) 32 32)) (← Extern.Bytes.bytesOf (.slice (some ⟨g', o', none⟩) 32 32))))) w = _
    simp only [Sem.run_bind, Sem.run_pure, Result.andThen, e1, e2, Lib.cmp_eq]
    rfl
  go_enter Tryz.func69, Tryz.ntmps69
  go_wp2
  rw [run_callFunc_extern Tryz.func100 (by kernel_rfl) (by kernel_rfl) (by kernel_rfl) (e := Extern.BytealgCompare.compare) (by kernel_rfl), hr]
  simp only [Result.andThen]
  rw [Oper.upon_value]
  go_wp2
  go_ret
  exact ⟨rfl, rfl⟩

/-- Do two votes contradict each other? -/
def conB (a b : Vt) : Bool := a.f == b.f && a.h == b.h && a.r == b.r && a.k == b.k && !(a.id == b.id)
theorem cut5 {p : Prop} (a b c d : Bool) (h1 : a = false → p) (h2 : a = true → b = false → p) (h3 : a = true → b = true → c = false → p) (h4 : a = true → b = true → c = true → d = false → p) (h5 : a = true → b = true → c = true → d = true → p) : p := by
  cases a
  · exact h1 rfl
  · cases b
    · exact h2 rfl rfl
    · cases c
      · exact h3 rfl rfl rfl
      · cases d
        · exact h4 rfl rfl rfl rfl
        · exact h5 rfl rfl rfl rfl
set_option maxRecDepth 100000 in
set_option maxHeartbeats 4000000 in
theorem con10 (w : World) (a b : Vt) (ha : a.ok) (hb : b.ok) : Calls Tryz.prog 68 #[.agg a.cs.toArray, .agg b.cs.toArray] w fun e w' => e = .returned (.bool (conB a b)) ∧ Turn no w w' := by
  obtain ⟨a0, a1, a2, _, a36, aid⟩ := ((Row.new w a.cs.toArray 42).alloc (.cells b.cs.toArray 42)).vt ha
  obtain ⟨b0, b1, b2, _, b36, bid⟩ := (Row.newAt (w.alloc (.cells a.cs.toArray 42)) b.cs.toArray 42 (w.heap.size + 1) (by simp)).vt hb
  have hia : (Tryz.prog.info? 26).map (·.size) = some (a.id.map bv).length := by rw [List.length_map, ha.1]; exact size24
  have hib : (Tryz.prog.info? 26).map (·.size) = some (b.id.map bv).length := by rw [List.length_map, hb.1]; exact size24
  have he := fun W => eqIn24 W 9998 a.id b.id ha.1 hb.1
  have TT : Turn no w ((w.alloc (.cells a.cs.toArray 42)).alloc (.cells b.cs.toArray 42)) := ((Turn.refl no w).alloc _).alloc _
  have HT := shut TT
  unfold conB
  generalize a.cs.toArray = CA at *
  generalize b.cs.toArray = CB at *
  generalize (a.id == b.id) = B at *
  generalize a.id.map bv = DA at *
  generalize b.id.map bv = DB at *
  generalize a.k = ak at *
  generalize a.h = ah at *
  generalize a.r = ar at *
  generalize a.f = af at *
  generalize b.k = bk at *
  generalize b.h = bh at *
  generalize b.r = br at *
  generalize b.f = bf at *
  clear TT ha hb
  refine cut5 (af == bf) (ah == bh) (ar == br) (ak == bk) ?_ ?_ ?_ ?_ ?_ <;> intros
  · clear aid bid hia hib he
    go_enter Tryz.func68, Tryz.ntmps68
    go_wp2_with fail
    go_ret
    exact ⟨by simp [*], HT.out⟩
  · clear aid bid hia hib he
    go_enter Tryz.func68, Tryz.ntmps68
    go_wp2_with fail
    go_ret
    exact ⟨by simp [*], HT.out⟩
  · clear aid bid hia hib he
    go_enter Tryz.func68, Tryz.ntmps68
    go_wp2_with fail
    go_ret
    exact ⟨by simp [*], HT.out⟩
  · clear aid bid hia hib he
    go_enter Tryz.func68, Tryz.ntmps68
    go_wp2_with fail
    go_ret
    exact ⟨by simp [*], HT.out⟩
  · go_enter Tryz.func68, Tryz.ntmps68
    go_wp2_with (first | (refine wpList_load_midG (by rfl) 26 (.tmp 32) rfl w.heap.size 3 rfl DA _ aid Tryz.underlying26 rfl hia ?_) | (refine wpList_load_midG (by rfl) 26 (.tmp 34) rfl (w.heap.size + 1) 3 rfl DB _ bid Tryz.underlying26 rfl hib ?_))
    go_ret
    exact ⟨by simp [*], HT.out⟩
end Go.Proofs.YtdgfkaoohfdmfaaGreatDoor
