/- Texts in one. -/
import Derived.Test.YtgimecdmleofeaaDoorZa
import Derived.Laws.Externs
/- PlainVote of the document; Below, bytes.Compare. -/
namespace Go.Proofs.YtgimecdmleofeaaDoor
open Go.RowKit
set_option linter.unusedVariables false

theorem bne_of {a b : Int} {x : Bool} (h : (a == b) = x) : (a != b) = !x := by simp [bne, h]
set_option maxRecDepth 100000 in
set_option maxHeartbeats 4000000 in
theorem plain12_0 (w : World) (v : Vt) (ho : v.ok) (h1 : ¬ v.k = 1) (h2 : ¬ v.k = 2) : Calls Tryd.prog 87 #[.agg v.cs.toArray] w fun e w' => e = .returned (.int .i64 (plainE v)) ∧ Turn no w w' := by
  rw [plainE_0 h1 h2]
  have g1 : (v.k != 1) = true := by simpa using h1
  have g2 : (v.k != 2) = true := by simpa using h2
  obtain ⟨c0, _, _, _, _, _⟩ := (Row.new w v.cs.toArray 78).vt ho
  generalize v.cs.toArray = C at *
  go_enter Tryd.func87, Tryd.ntmps87
  go_wp2_with fail
  go_ret
  exact ⟨rfl, (Turn.refl no w).alloc _⟩
set_option maxRecDepth 100000 in
set_option maxHeartbeats 4000000 in
theorem plain12_1 (w : World) (v : Vt) (ho : v.ok) (h1 : v.k = 1) : Calls Tryd.prog 87 #[.agg v.cs.toArray] w fun e w' => e = .returned (.int .i64 (plainE v)) ∧ Turn no w w' := by
  rw [plainE_1 h1]
  obtain ⟨c0, c1, c2, c35, c36, cid⟩ := (Row.new w v.cs.toArray 78).vt ho
  generalize v.cs.toArray = C at *
  rw [h1] at c0
  clear h1 cid
  generalize v.h = vh at *
  generalize v.r = vr at *
  generalize v.t = vt at *
  generalize v.f = vf at *
  clear ho
  refine cut4 (hB vh) (rB vr) (tB vt) ?_ ?_ ?_ ?_ <;> intros
  · go_enter Tryd.func87, Tryd.ntmps87
    go_wp2_with (first | (go_at_call 75; refine (height21 _ _).mono ?_; rintro e w' ⟨rfl, rfl⟩) | (go_at_call 79; refine (round22 _ _).mono ?_; rintro e w' ⟨rfl, rfl⟩) | (go_at_call 76; refine (time23 _ _).mono ?_; rintro e w' ⟨rfl, rfl⟩))
    go_ret
    exact ⟨by simp [fieldE, *], (Turn.refl no w).alloc _⟩
  · go_enter Tryd.func87, Tryd.ntmps87
    go_wp2_with (first | (go_at_call 75; refine (height21 _ _).mono ?_; rintro e w' ⟨rfl, rfl⟩) | (go_at_call 79; refine (round22 _ _).mono ?_; rintro e w' ⟨rfl, rfl⟩) | (go_at_call 76; refine (time23 _ _).mono ?_; rintro e w' ⟨rfl, rfl⟩))
    go_ret
    exact ⟨by simp [fieldE, *], (Turn.refl no w).alloc _⟩
  · go_enter Tryd.func87, Tryd.ntmps87
    go_wp2_with (first | (go_at_call 75; refine (height21 _ _).mono ?_; rintro e w' ⟨rfl, rfl⟩) | (go_at_call 79; refine (round22 _ _).mono ?_; rintro e w' ⟨rfl, rfl⟩) | (go_at_call 76; refine (time23 _ _).mono ?_; rintro e w' ⟨rfl, rfl⟩))
    go_ret
    exact ⟨by simp [fieldE, *], (Turn.refl no w).alloc _⟩
  · cases q1 : (vt == 0) <;> cases q2 : (vf == 0)
    all_goals (
      have q3 := bne_of q1
      have q4 := bne_of q2
      go_enter Tryd.func87, Tryd.ntmps87
      go_wp2_with (first | (go_at_call 75; refine (height21 _ _).mono ?_; rintro e w' ⟨rfl, rfl⟩) | (go_at_call 79; refine (round22 _ _).mono ?_; rintro e w' ⟨rfl, rfl⟩) | (go_at_call 76; refine (time23 _ _).mono ?_; rintro e w' ⟨rfl, rfl⟩))
      go_ret
      exact ⟨by simp [fieldE, *], (Turn.refl no w).alloc _⟩)
set_option maxRecDepth 100000 in
set_option maxHeartbeats 4000000 in
theorem plain12_2 (w : World) (v : Vt) (ho : v.ok) (h1 : v.k = 2) : Calls Tryd.prog 87 #[.agg v.cs.toArray] w fun e w' => e = .returned (.int .i64 (plainE v)) ∧ Turn no w w' := by
  rw [plainE_2 h1]
  obtain ⟨c0, c1, c2, c35, c36, cid⟩ := (Row.new w v.cs.toArray 78).vt ho
  have hi : (Tryd.prog.info? 29).map (·.size) = some (v.id.map bv).length := by rw [List.length_map, ho.1]; exact size24
  have he := fun W => eqz W v.id ho.1
  generalize v.cs.toArray = C at *
  rw [h1] at c0
  clear h1
  generalize v.id.map bv = D at *
  generalize (v.id == zid) = B at *
  generalize v.h = vh at *
  generalize v.r = vr at *
  generalize v.t = vt at *
  generalize v.f = vf at *
  clear ho
  refine cut4 (hB vh) (rB vr) (tB vt) ?_ ?_ ?_ ?_ <;> intros
  · go_enter Tryd.func87, Tryd.ntmps87
    go_wp2_with (first | (go_at_call 75; refine (height21 _ _).mono ?_; rintro e w' ⟨rfl, rfl⟩) | (go_at_call 79; refine (round22 _ _).mono ?_; rintro e w' ⟨rfl, rfl⟩) | (go_at_call 76; refine (time23 _ _).mono ?_; rintro e w' ⟨rfl, rfl⟩))
    go_ret
    exact ⟨by simp [fieldE, *], (Turn.refl no w).alloc _⟩
  · go_enter Tryd.func87, Tryd.ntmps87
    go_wp2_with (first | (go_at_call 75; refine (height21 _ _).mono ?_; rintro e w' ⟨rfl, rfl⟩) | (go_at_call 79; refine (round22 _ _).mono ?_; rintro e w' ⟨rfl, rfl⟩) | (go_at_call 76; refine (time23 _ _).mono ?_; rintro e w' ⟨rfl, rfl⟩))
    go_ret
    exact ⟨by simp [fieldE, *], (Turn.refl no w).alloc _⟩
  · go_enter Tryd.func87, Tryd.ntmps87
    go_wp2_with (first | (go_at_call 75; refine (height21 _ _).mono ?_; rintro e w' ⟨rfl, rfl⟩) | (go_at_call 79; refine (round22 _ _).mono ?_; rintro e w' ⟨rfl, rfl⟩) | (go_at_call 76; refine (time23 _ _).mono ?_; rintro e w' ⟨rfl, rfl⟩))
    go_ret
    exact ⟨by simp [fieldE, *], (Turn.refl no w).alloc _⟩
  · cases q1 : (vt == 0)
    · cases q2 : (vf == 0) <;> cases q5 : B
      all_goals (
        have q3 := bne_of q1
        have q4 := bne_of q2
        go_enter Tryd.func87, Tryd.ntmps87
        go_wp2_with (first | (go_at_call 75; refine (height21 _ _).mono ?_; rintro e w' ⟨rfl, rfl⟩) | (go_at_call 79; refine (round22 _ _).mono ?_; rintro e w' ⟨rfl, rfl⟩))
        refine (time23 _ _).mono ?_
        rintro e w' ⟨rfl, rfl⟩
        go_wp2_with (refine wpList_load_midG (by rfl) 29 (.tmp 35) rfl w.heap.size 3 rfl D _ cid Tryd.underlying29 rfl hi ?_)
        go_ret
        exact ⟨by simp [fieldE, *], (Turn.refl no w).alloc _⟩)
    · clear cid hi he
      cases q2 : (vf == 0) <;> cases q5 : B
      all_goals (
        have q3 := bne_of q1
        have q4 := bne_of q2
        go_enter Tryd.func87, Tryd.ntmps87
        go_wp2_with (first | (go_at_call 75; refine (height21 _ _).mono ?_; rintro e w' ⟨rfl, rfl⟩) | (go_at_call 79; refine (round22 _ _).mono ?_; rintro e w' ⟨rfl, rfl⟩))
        refine (time23 _ _).mono ?_
        rintro e w' ⟨rfl, rfl⟩
        go_wp2_with fail
        go_ret
        exact ⟨by simp [fieldE, *], (Turn.refl no w).alloc _⟩)
theorem plain12 (w : World) (v : Vt) (ho : v.ok) : Calls Tryd.prog 87 #[.agg v.cs.toArray] w fun e w' => e = .returned (.int .i64 (plainE v)) ∧ Turn no w w' := by
  by_cases h1 : v.k = 1
  · exact plain12_1 w v ho h1
  · by_cases h2 : v.k = 2
    · exact plain12_2 w v ho h2
    · exact plain12_0 w v ho h1 h2
/-- Below, by its definition. -/
def ltB : List UInt8 → List UInt8 → Bool
  | a :: l, b :: m => if a = b then ltB l m else decide (a.toNat < b.toNat)
  | _, _ => false
theorem ltB_drop : ∀ (k : Nat) (X Y : List UInt8), k ≤ X.length → k ≤ Y.length → X.take k = Y.take k → ltB X Y = ltB (X.drop k) (Y.drop k)
  | 0, _, _, _, _, _ => by simp
  | k + 1, [], _, h, _, _ => by simp at h
  | k + 1, _ :: _, [], _, h, _ => by simp at h
  | k + 1, a :: X, b :: Y, h1, h2, h3 => by
    simp at h1 h2 h3
    obtain ⟨rfl, h3⟩ := h3
    simp only [List.drop_succ_cons, ltB, if_true]
    exact ltB_drop k X Y h1 h2 h3
theorem ltB_at {X Y : List UInt8} {k : Nat} (h1 : k < X.length) (h2 : k < Y.length) (h3 : X.take k = Y.take k) (hne : X[k] ≠ Y[k]) : ltB X Y = decide (X[k].toNat < Y[k].toNat) := by
  rw [ltB_drop k X Y (by omega) (by omega) h3, List.drop_eq_getElem_cons h1, List.drop_eq_getElem_cons h2]
  simp [ltB, hne]
theorem ltB_same (X : List UInt8) : ltB X X = false := by
  induction X with
  | nil => rfl
  | cons a X ih => simp [ltB, ih]
theorem take_succ_eq {X Y : List UInt8} {k : Nat} (h1 : k < X.length) (h2 : k < Y.length) (h3 : X.take k = Y.take k) (he : X[k] = Y[k]) : X.take (k + 1) = Y.take (k + 1) := by
  rw [List.take_succ_eq_append_getElem h1, List.take_succ_eq_append_getElem h2, h3, he]
theorem compare_lt : ∀ (X Y : List UInt8), X.length = Y.length → decide (0 < Lib.compareBytes X Y) = ltB Y X
  | [], [], _ => by simp [Lib.compareBytes, ltB]
  | [], _ :: _, h => by simp at h
  | _ :: _, [], h => by simp at h
  | a :: X, b :: Y, h => by
    have ih := compare_lt X Y (by simpa using h)
    unfold Lib.compareBytes ltB
    by_cases h1 : a < b
    · have h2 : ¬ b = a := fun q => by subst q; exact absurd h1 (UInt8.lt_irrefl _)
      have h3 : ¬ b.toNat < a.toNat := by have := UInt8.lt_iff_toNat_lt.1 h1; omega
      simp [h1, h2, h3]
    · by_cases h2 : b < a
      · have h3 : ¬ b = a := fun q => by subst q; exact absurd h2 (UInt8.lt_irrefl _)
        have h4 : b.toNat < a.toNat := UInt8.lt_iff_toNat_lt.1 h2
        simp [h1, h2, h3, h4]
      · have h3 : b = a := UInt8.toNat_inj.1 (by
          have q1 : ¬ a.toNat < b.toNat := fun q => h1 (UInt8.lt_iff_toNat_lt.2 q)
          have q2 : ¬ b.toNat < a.toNat := fun q => h2 (UInt8.lt_iff_toNat_lt.2 q)
          omega)
        simp [h3, ih]

set_option maxRecDepth 100000 in
set_option maxHeartbeats 4000000 in
theorem below13 (w : World) (X Y : List UInt8) (hx : X.length = 32) (hy : Y.length = 32) : Calls Tryd.prog 88 #[.agg (X.map bv).toArray, .agg (Y.map bv).toArray] w fun e w' => e = .returned (.bool (ltB X Y)) ∧ Turn no w w' := by
  have RX := (Row.new w (X.map bv).toArray 29).alloc (.cells (Y.map bv).toArray 29)
  have RY := Row.newAt (w.alloc (.cells (X.map bv).toArray 29)) (Y.map bv).toArray 29 (w.heap.size + 1) (by simp)
  have TT : Turn no w ((w.alloc (.cells (X.map bv).toArray 29)).alloc (.cells (Y.map bv).toArray 29)) := ((Turn.refl no w).alloc _).alloc _
  have g1 : ∀ (k : Nat) (h : k < X.length), ((w.alloc (.cells (X.map bv).toArray 29)).alloc (.cells (Y.map bv).toArray 29)).cell? ⟨w.heap.size, k, none⟩ = some (.int .u8 (X[k]'h).toNat) := fun k h => RX.cell k _ (by simp [h]; rfl)
  have g2 : ∀ (k : Nat) (h : k < Y.length), ((w.alloc (.cells (X.map bv).toArray 29)).alloc (.cells (Y.map bv).toArray 29)).cell? ⟨w.heap.size + 1, k, none⟩ = some (.int .u8 (Y[k]'h).toNat) := fun k h => RY.cell k _ (by simp [h]; rfl)
  have G1 := shut g1
  have G2 := shut g2
  have HT := shut TT
  have HX := shut hx
  have HY := shut hy
  clear RX RY g1 g2 TT hx hy
  generalize (X.map bv).toArray = A at *
  generalize (Y.map bv).toArray = B at *
  go_enter Tryd.func88, Tryd.ntmps88
  go_wp2
  generalize (w.alloc (.cells A 29)).alloc (.cells B 29) = w0 at *
  go_loopw [5] (fun i wr => ∃ k : Nat, k ≤ 32 ∧ i = .int .i64 k ∧ Hid (X.take k = Y.take k) ∧ ∃ n, wr = w0.drewN n) (fun i _ => 32 - (intOf i).toNat)
  case atStart => exact ⟨0, Nat.zero_le _, rfl, rfl, 0, rfl⟩
  case round =>
    obtain ⟨k, hk, rfl, Heq, n, rfl⟩ := hrel
    by_cases hlt : k < 32
    · have hkx : k < X.length := by have := HX.out; omega
      have hky : k < Y.length := by have := HY.out; omega
      have g1 := G1.out k hkx
      have g2 := G2.out k hky
      have hlt' : (k : Int) < 32 := by omega
      go_wp2
      go_quiet (fail)
      go_wp2
      · go_quiet (fail)
        go_wp2
        go_ret
        rw [ltB_at hkx hky Heq.out (u8_ne ‹_›)]
        exact ⟨rfl, ((HT.out.drewN _).drewN _).drewN _⟩
      · go_roundw
        case rel => exact ⟨k + 1, by omega, by go_num, take_succ_eq hkx hky Heq.out (u8_eq ‹_›), _, rfl⟩
        case measure => simp [intOf]; omega
    · have hlt' : ¬ (k : Int) < 32 := by omega
      go_wp2
      go_ret
      have e : X = Y := by
        have h := Heq.out
        have h1 := HX.out
        have h2 := HY.out
        rw [List.take_of_length_le (by omega), List.take_of_length_le (by omega)] at h
        exact h
      subst e
      rw [ltB_same]
      exact ⟨rfl, HT.out.drewN _⟩

theorem run_bytes {P : Program} (w : World) : ∀ (l : List UInt8) (a : Addr) (acc : ByteArray), (∀ j x, l[j]? = some x → w.cell? (a.add j) = some (bv x)) →
    (Extern.Bytes.loadBytes a l.length acc).run P w = .ok ⟨acc.data ++ l.toArray⟩ w
  | [], a, acc, _ => by simp [Extern.Bytes.loadBytes]
  | x :: l, a, acc, h => by
    have h0 : w.cell? a = some (.int .u8 x.toNat) := by
      have := h 0 x rfl
      simpa [Addr.add, bv] using this
    have ih := run_bytes (P := P) w l (a.add 1) (acc.push x) (fun j y hy => by
      have := h (j + 1) y (by simpa using hy)
      have e : (a.add 1).add j = a.add (j + 1) := by
        unfold Addr.add
        by_cases hj : j = 0
        · subst hj; simp
        · simp [hj]; omega
      rw [e]; exact this)
    have hx : ((x.toNat : Int).toNat).toUInt8 = x := by simp
    simp only [List.length_cons, Extern.Bytes.loadBytes, Sem.run_bind, run_load, h0, Result.andThen, hx]
    rw [ih]
    congr 1
    apply ByteArray.ext
    simp [ByteArray.push]
theorem run_bytesOf {P : Program} {w : World} (X : List UInt8) (g o c : Nat) (h : w.rangeAt g o (X.map bv)) : (Extern.Bytes.bytesOf (.slice (some ⟨g, o, none⟩) X.length c)).run P w = .ok ⟨X.toArray⟩ w := by
  have := run_bytes (P := P) w X ⟨g, o, none⟩ .empty (fun j x hx => by
    rw [Addr.add_mid]
    exact h j _ (by simp [hx]))
  simp only [Extern.Bytes.bytesOf]
  rw [this]
  congr 1
  apply ByteArray.ext
  show (#[] : Array UInt8) ++ X.toArray = X.toArray
  simp
set_option maxRecDepth 100000 in
theorem compare11 (w : World) (X Y : List UInt8) (g o g' o' : Nat) (hx : X.length = 32) (hy : Y.length = 32) (h1 : w.rangeAt g o (X.map bv)) (h2 : w.rangeAt g' o' (Y.map bv)) :
    Calls Tryd.prog 105 #[.slice (some ⟨g, o, none⟩) 32 32, .slice (some ⟨g', o', none⟩) 32 32] w fun e w' => e = .returned (.int .i64 (Lib.compareBytes X Y)) ∧ w = w' := by
  have hr : (Extern.BytealgCompare.compare #[.slice (some ⟨g, o, none⟩) 32 32, .slice (some ⟨g', o', none⟩) 32 32]).run Tryd.prog w = .ok (.int .i64 (Lib.compareBytes X Y)) w := by
    have e1 := run_bytesOf (P := Tryd.prog) X g o 32 h1
    have e2 := run_bytesOf (P := Tryd.prog) Y g' o' 32 h2
    rw [hx] at e1
    rw [hy] at e2
    change Sem.run Tryd.prog (do pure (goInt (Extern.BytealgCompare.cmp (← Extern.Bytes.bytesOf (.slice (some ⟨g, o, none⟩) 32 32)) (← Extern.Bytes.bytesOf (.slice (some ⟨g', o', none⟩) 32 32))))) w = _
    simp only [Sem.run_bind, Sem.run_pure, Result.andThen, e1, e2, Lib.cmp_eq]
    rfl
  go_enter Tryd.func105, Tryd.ntmps105
  go_wp2
  rw [run_callFunc_extern Tryd.func118 (by kernel_rfl) (by kernel_rfl) (by kernel_rfl) (e := Extern.BytealgCompare.compare) (by kernel_rfl), hr]
  simp only [Result.andThen]
  rw [Oper.upon_value]
  go_wp2
  go_ret
  exact ⟨rfl, rfl⟩

theorem compare_ge : ∀ (X Y : List UInt8), X.length = Y.length → decide (0 ≤ Lib.compareBytes X Y) = !ltB X Y
  | [], [], _ => by simp [Lib.compareBytes, ltB]
  | [], _ :: _, h => by simp at h
  | _ :: _, [], h => by simp at h
  | a :: X, b :: Y, h => by
    have ih := compare_ge X Y (by simpa using h)
    unfold Lib.compareBytes ltB
    by_cases h1 : a < b
    · have h2 : ¬ a = b := fun q => by subst q; exact absurd h1 (UInt8.lt_irrefl _)
      have h3 : a.toNat < b.toNat := UInt8.lt_iff_toNat_lt.1 h1
      simp [h1, h2, h3]
    · by_cases h2 : b < a
      · have h3 : ¬ a = b := fun q => by subst q; exact absurd h2 (UInt8.lt_irrefl _)
        have h4 : ¬ a.toNat < b.toNat := by have := UInt8.lt_iff_toNat_lt.1 h2; omega
        simp [h1, h2, h3, h4]
      · have h3 : a = b := UInt8.toNat_inj.1 (by
          have q1 : ¬ a.toNat < b.toNat := fun q => h1 (UInt8.lt_iff_toNat_lt.2 q)
          have q2 : ¬ b.toNat < a.toNat := fun q => h2 (UInt8.lt_iff_toNat_lt.2 q)
          omega)
        simp [h3, ih]
end Go.Proofs.YtgimecdmleofeaaDoor

/- PlainEvidence. -/
namespace Go.Proofs.YtgimecdmleofeaaDoor
open Go.RowKit
set_option linter.unusedVariables false

def firstE : List Vt → Int
  | [] => 0
  | v :: r => if plainE v = 0 then firstE r else plainE v
theorem firstE_at {l : List Vt} {k : Nat} {v : Vt} (h : l[k]? = some v) : firstE (l.drop k) = if plainE v = 0 then firstE (l.drop (k + 1)) else plainE v := by
  obtain ⟨hk, rfl⟩ := List.getElem?_eq_some_iff.1 h
  rw [List.drop_eq_getElem_cons hk]
  rfl
def vt0 : Vt := ⟨0, 0, 0, List.replicate 32 0, 0, 0, List.replicate 16 0⟩
def Z78 : Array Value := vt0.cs.toArray
theorem zero78 (w : World) : (zeroValue 78).run Tryd.prog w = .ok (.agg Z78) w := by kernel_rfl
theorem Z78_size : Z78.size = 53 := by kernel_rfl
theorem Vt.infoA {x : Vt} (h : x.ok) : (Tryd.prog.info? 78).map (·.size) = some x.cs.toArray.size := by rw [x.size h]; exact size29
theorem Vt.oneA (x : Vt) : x.cs.toArray.all (·.oneCell') = true := by
  simp only [List.all_toArray, List.all_eq_true]
  exact x.one
set_option maxRecDepth 100000 in
set_option maxHeartbeats 4000000 in
theorem first103 (w : World) (g : Nat) (l : List Vt) (n : Nat) (hn : l.length = n) (hm : n ≤ 1000) (hl : ∀ (k : Nat) v, l[k]? = some v → v.ok ∧ w.rangeAt g (k * 53) v.cs) :
    Calls Tryd.prog 103 #[.slice (some ⟨g, 0, none⟩) n n, .func (.func 104) #[] #[]] w fun e w' => e = .returned (.int .i64 (firstE l)) ∧ Turn no w w' := by
  have HN := shutX hn
  have HL := shutX hl
  have hz8 := zero78
  have hZs := Z78_size
  clear hn hl
  go_enter Tryd.func103, Tryd.ntmps103
  go_wp2_with fail
  go_loopw [10] (fun c wr => ∃ (k : Nat), k ≤ n ∧ c = .int .i64 k ∧ Shut (firstE l = firstE (l.drop k) ∧ Turn no w wr)) (fun c _ => n - (intOf c).toNat)
  case atStart => exact ⟨0, by omega, rfl, ⟨rfl, Turn.refl _ _⟩⟩
  case round =>
    obtain ⟨k, hk, rfl, HI⟩ := hrel
    by_cases hlt : k < n
    · obtain ⟨v, hv⟩ : ∃ v, l[k]? = some v := ⟨l[k]'(by rw [HN.out]; exact hlt), List.getElem?_eq_getElem _⟩
      obtain ⟨vo, vr⟩ := HL.out k v hv
      have hr : wr.rangeAt g (k * 53) v.cs := fun j u hu => HI.out.2.keep (vr j u hu) (fun q => q)
      have hs1 := size78 vo
      have hs2 := v.infoA vo
      have hs3 := v.oneA
      have hs4 : Z78.size = v.cs.toArray.size := by rw [hZs, v.size vo]
      have hlt' : (k : Int) < (n : Int) := by omega
      have hk1 : Hid (k + 1 ≤ n) := hlt
      have HST := shutX (firstE_at hv)
      have HP := shutX (fun W => plain9 W v vo)
      clear hv vo vr
      generalize plainE v = pv at *
      generalize v.cs = D at *
      go_upto_region 4 with (first | (guard_target =~ wpList _ _ _ ({ dst := _, op := Op.load 78 _, .. } :: _) _ _; refine wpList_load_mid rfl 78 (.tmp 12) rfl g (k * 53) rfl D _ hr Tryd.underlying78 rfl hs1 ?_) | (guard_target =~ wpList _ _ _ ({ dst := _, op := Op.store 78 _ _, .. } :: _) _ _; refine wpList_store_any rfl 78 (.tmp 6) (.tmp 13) rfl wr.heap.size D.toArray rfl rfl 78 Z78 (Row.new wr Z78 78) hs2 hs4 hs3 ?_; intro w2 R1 t1))
      have tA : Turn (fun z => z = wr.heap.size) wr w2 := ((Turn.refl _ wr).alloc _).trans t1 (fun _ _ q => q)
      have T2 := shutX (HI.out.2.trans tA (fun i hi q => by have := HI.out.2.size; omega))
      have C := HP.out w2
      have HI1 := shutX HI.out.1
      clear hr tA t1 HI HP
      generalize D.toArray = A at *
      by_cases h0 : pv = 0
      · subst h0
        have HS2 : Shut (firstE l = firstE (l.drop (k + 1))) := ⟨by rw [HI1.out, HST.out, if_pos rfl]⟩
        clear HI1 HST
        go_wp2_with (first | (guard_target =~ wpList _ _ _ ({ dst := _, op := Op.load 78 (Operand.tmp 6), .. } :: _) _ _; refine wpList_load_row rfl 78 (.tmp 6) rfl wr.heap.size rfl 78 A _ _ R1 Tryd.underlying78 rfl hs2 ?_) | (go_at_call 104; refine C.mono ?_; clear C; rintro e w3 ⟨rfl, t3⟩))
        go_roundw
        case rel => exact ⟨k + 1, hk1.out, by go_num, ⟨HS2.out, T2.out.then_no t3⟩⟩
        case measure => have := hk1.out; simp [intOf]; omega
      · have HS2 : Shut (firstE l = pv) := ⟨by rw [HI1.out, HST.out, if_neg h0]⟩
        have n1 : (pv != 0) = true := by simpa using h0
        clear HI1 HST h0
        go_wp2_with (first | (guard_target =~ wpList _ _ _ ({ dst := _, op := Op.load 78 (Operand.tmp 6), .. } :: _) _ _; refine wpList_load_row rfl 78 (.tmp 6) rfl wr.heap.size rfl 78 A _ _ R1 Tryd.underlying78 rfl hs2 ?_) | (go_at_call 104; refine C.mono ?_; clear C; rintro e w3 ⟨rfl, t3⟩))
        go_ret
        exact ⟨by rw [HS2.out]; rfl, T2.out.then_no t3⟩
    · obtain rfl : k = n := by omega
      have hlt' : ¬ (k : Int) < (k : Int) := by omega
      have HE : Shut (firstE l = 0) := ⟨by rw [HI.out.1, List.drop_of_length_le (by rw [HN.out]; exact Nat.le_refl _)]; rfl⟩
      have HT := shutX HI.out.2
      clear HI HL
      go_wp2_with fail
      go_ret
      exact ⟨by rw [HE.out]; rfl, HT.out⟩
theorem first_two (W : World) (x : Ev) (ho : x.fits) : Calls Tryd.prog 103 #[.slice (some ⟨W.heap.size, 0, none⟩) 2 2, .func (.func 104) #[] #[]] (W.alloc (.cells (x.a.cs ++ x.b.cs).toArray 78)) fun e w' => e = .returned (.int .i64 (firstE [x.a, x.b])) ∧ Turn no (W.alloc (.cells (x.a.cs ++ x.b.cs).toArray 78)) w' := by
  have rr : (W.alloc (.cells (x.a.cs ++ x.b.cs).toArray 78)).rangeAt W.heap.size 0 (x.a.cs ++ x.b.cs) := Row.rangeZ (l := x.a.cs ++ x.b.cs) (Row.new W (x.a.cs ++ x.b.cs).toArray 78)
  obtain ⟨r1, r2⟩ := range_app rr
  rw [x.a.len ho.1.1, Nat.zero_add] at r2
  clear rr
  generalize W.alloc (.cells (x.a.cs ++ x.b.cs).toArray 78) = W1 at *
  generalize W.heap.size = g at *
  refine first103 W1 g [x.a, x.b] 2 rfl (by omega) ?_
  intro k v hv
  match k, hv with
  | 0, hv =>
    obtain rfl : x.a = v := Option.some.inj hv
    exact ⟨ho.1.1, by rw [Nat.zero_mul]; exact r1⟩
  | 1, hv =>
    obtain rfl : x.b = v := Option.some.inj hv
    exact ⟨ho.2.1, by rw [Nat.one_mul]; exact r2⟩
  | k + 2, hv => simp at hv
/-- What is wrong with evidence. -/
def plainV (x : Ev) : Int :=
  if plainE x.a = 0 then
    if plainE x.b = 0 then
      if (x.a.k == x.b.k && x.a.h == x.b.h && x.a.r == x.b.r && x.a.f == x.b.f) = true then (if ltB x.a.id x.b.id = true then 0 else 42) else 41
    else plainE x.b
  else plainE x.a
theorem plainV_lays {x : Ev} (h : plainV x = 0) : x.lays := by
  unfold plainV at h
  by_cases h1 : plainE x.a = 0
  · by_cases h2 : plainE x.b = 0
    · exact ⟨plainE_zero h1, plainE_zero h2⟩
    · rw [if_pos h1, if_neg h2] at h; exact absurd h h2
  · rw [if_neg h1] at h; exact absurd h h1
section
variable {P : Program} {ops : Array Oper} {rest : List Oper} {o : Oper} {a : Act} {w : World} {Q : Exit → Act → World → Prop}
theorem wpList_bslice2 (hg : o.guard = none) (t e : TypeId) (size : Nat) (x0 x1 : Operand) (ho : o.op = .buildSlice t 2 #[(0, x0), (1, x1)]) (v0 v1 : Value) (e0 : a.eval x0 = v0) (e1 : a.eval x1 = v1)
    (h1 : ∀ v ∈ [v0, v1], v.cells.size = size) (hs : 0 < size) (hsm : 2 * size ≤ 2 ^ 24)
    (hu : P.underlying t = some (.slice e)) (hi : (P.info? e).map (·.size) = some size) (hz : ((P.info? e).bind (·.zero)).isSome = true)
    (h : wpList P ops Q rest (a.put o.dst (.slice (some ⟨w.heap.size, 0, none⟩) 2 2)) (w.alloc (.cells ([v0, v1].flatMap fun v => v.cells.toList).toArray e))) : wpList P ops Q (o :: rest) a w :=
  wpList_bsliceW hg t e 2 size _ ho [v0, v1] (by simp [e0, e1]) rfl h1 hs (by omega) hsm hu hi hz h
end
theorem cut4b {p : Prop} (a b c d : Bool) (h1 : a = false → p) (h2 : a = true → b = false → p) (h3 : a = true → b = true → c = false → p) (h4 : a = true → b = true → c = true → d = false → p) (h5 : a = true → b = true → c = true → d = true → p) : p := by
  cases a
  · exact h1 rfl
  · cases b
    · exact h2 rfl rfl
    · cases c
      · exact h3 rfl rfl rfl
      · cases d
        · exact h4 rfl rfl rfl rfl
        · exact h5 rfl rfl rfl rfl
end Go.Proofs.YtgimecdmleofeaaDoor

/- PlainEvidence of the program. -/
namespace Go.Proofs.YtgimecdmleofeaaDoor
open Go.RowKit
set_option linter.unusedVariables false

set_option maxRecDepth 100000 in
set_option maxHeartbeats 8000000 in
theorem plainV82 (w : World) (x : Ev) (ho : x.fits) : Calls Tryd.prog 82 #[.agg x.cs.toArray] w fun e w' => e = .returned (.int .i64 (plainV x)) ∧ Turn no w w' := by
  have oa := ho.1.1
  have ob := ho.2.1
  obtain ⟨ra, rb⟩ := ev_range ho (Row.rangeZ (Row.new w x.cs.toArray 80))
  rw [Nat.zero_add] at rb
  have za := size78 oa
  have zb := size78 ob
  have i1 := x.a.infoA oa
  have i2 := x.b.infoA ob
  have o1 := x.a.oneA
  have o2 := x.b.oneA
  have s1 : Z78.size = x.a.cs.toArray.size := by rw [Z78_size, x.a.size oa]
  have s2 : Z78.size = x.b.cs.toArray.size := by rw [Z78_size, x.b.size ob]
  have hz8 := zero78
  have HFL : Shut (([.agg x.a.cs.toArray, .agg x.b.cs.toArray] : List Value).flatMap (fun v => v.cells.toList) = x.a.cs ++ x.b.cs) := ⟨by simp [Value.cells]⟩
  have HS2 : Shut (∀ u ∈ [Value.agg x.a.cs.toArray, Value.agg x.b.cs.toArray], u.cells.size = 53) := ⟨fun u hu => by
    simp only [List.mem_cons, List.not_mem_nil, or_false] at hu
    rcases hu with rfl | rfl
    · simpa [Value.cells] using x.a.len oa
    · simpa [Value.cells] using x.b.len ob⟩
  have HF := shutX (fun W => first_two W x ho)
  have HV : Shut (∀ W g, Row W g x.a.cs.toArray 78 → At W g x.a) := ⟨fun W g r => r.vt oa⟩
  have HV2 : Shut (∀ W g, Row W g x.b.cs.toArray 78 → At W g x.b) := ⟨fun W g r => r.vt ob⟩
  have HCMP : Shut (∀ W g g', W.rangeAt g 3 (x.a.id.map bv) → W.rangeAt g' 3 (x.b.id.map bv) → Calls Tryd.prog 105 #[.slice (some ⟨g, 3, none⟩) 32 32, .slice (some ⟨g', 3, none⟩) 32 32] W fun e w' => e = .returned (.int .i64 (Lib.compareBytes x.a.id x.b.id)) ∧ W = w') := ⟨fun W g g' h1 h2 => compare11 W x.a.id x.b.id g 3 g' 3 oa.1 ob.1 h1 h2⟩
  have HGE := shutX (compare_ge x.a.id x.b.id (by rw [oa.1, ob.1]))
  have t0 : Turn no w (w.alloc (.cells x.cs.toArray 80)) := (Turn.refl no w).alloc _
  obtain ⟨w1, hw1⟩ : ∃ W, w.alloc (.cells x.cs.toArray 80) = W := ⟨_, rfl⟩
  rw [hw1] at ra rb t0
  have Hc := shutX (fun W (t : Turn no w1 W) => And.intro (fun j u hu => t.keep (ra j u hu) (fun q => q) : W.rangeAt w.heap.size 0 x.a.cs) (fun j u hu => t.keep (rb j u hu) (fun q => q) : W.rangeAt w.heap.size 53 x.b.cs))
  obtain ⟨EV, HEV⟩ : ∃ E, Shut (plainV x = E) := ⟨_, ⟨rfl⟩⟩
  rw [HEV.out]
  clear ra rb oa ob ho
  generalize hC : x.cs.toArray = C at *
  clear hC
  generalize hD1 : x.a.cs = D1 at *
  generalize hD2 : x.b.cs = D2 at *
  clear hD1 hD2
  generalize hA1 : D1.toArray = A1 at *
  generalize hA2 : D2.toArray = A2 at *
  have HA := shutX (And.intro hA1 hA2)
  clear hA1 hA2
  go_enter Tryd.func82, Tryd.ntmps82
  go_upto_region 1 with fail
  try rw [hw1]
  have HW1 := shutX hw1
  clear hw1
  obtain ⟨b, hbb⟩ : ∃ b, w.heap.size = b := ⟨_, rfl⟩
  rw [hbb] at Hc
  try rw [hbb]
  have Hbb := shutX hbb
  clear hbb
  go_cut [3, 4] from 6 to 9 (fun p q wx => ∃ g1 g2, p = .pointer (some ⟨g1, 0, none⟩) ∧ q = .pointer (some ⟨g2, 0, none⟩) ∧ Shut (Row wx g1 A1 78 ∧ Row wx g2 A2 78 ∧ Turn no w1 wx))
  case first =>
    refine wp_region_held_drew (S := fun W => Turn no w1 W) (by kernel_rfl) (Turn.refl no w1).drew (fun hHeld => ?_)
    refine' wpAnyH_take (i := 0) (v := .pointer (some ⟨b, 0, none⟩)) rfl (by kernel_rfl) (by kernel_rfl) (by kernel_rfl) (fun _ _ _ h => h) (Or.inl ⟨by kernel_rfl, fun W hW => ?y1⟩) hHeld ?r1
    · go_simp
    refine' wpAnyH_take (i := 1) (v := .agg A1) rfl (by kernel_rfl) (by kernel_rfl) (by kernel_rfl) (fun _ _ _ h => h) (by rw [← HA.out.1]; exact yieldsIf_load_mid (by kernel_rfl) 78 (.tmp 6) rfl b 0 (by kernel_rfl) D1 _ (fun W h => (Hc.out W h).1) Tryd.underlying78 rfl za) hHeld ?s1
    refine' wpAnyH_take (i := 2) (v := .pointer (some ⟨b, 53, none⟩)) rfl (by kernel_rfl) (by kernel_rfl) (by kernel_rfl) (fun _ _ _ h => h) (Or.inl ⟨by kernel_rfl, fun W hW => ?y2⟩) hHeld ?r2
    · go_simp
    refine' wpAnyH_take (i := 3) (v := .agg A2) rfl (by kernel_rfl) (by kernel_rfl) (by kernel_rfl) (fun _ _ _ h => h) (by rw [← HA.out.2]; exact yieldsIf_load_mid (by kernel_rfl) 78 (.tmp 8) rfl b 53 (by kernel_rfl) D2 _ (fun W h => (Hc.out W h).2) Tryd.underlying78 rfl zb) hHeld ?s2
    obtain ⟨X0, hX0⟩ : ∃ X, w1.drew = X := ⟨_, rfl⟩
    rw [hX0] at hHeld ⊢
    clear hX0
    have hH0 := hHeld
    refine wpAnyH_ready (rs := [4, 5]) (by kernel_rfl) (by simp) ?_
    refine AllReadyH.cons rfl (fun K hK => ?_) (AllReadyH.cons rfl (fun K hK => ?_) AllReadyH.nil)
    · skip
      go_simp
      refine hK.out _ _ (hHeld.alloc _) (fun hHeld => ?_)
      clear hK
      refine wpAnyH_ready (rs := [5]) (by kernel_rfl) (by simp) ?_
      refine AllReadyH.cons rfl (fun K hK => ?_) AllReadyH.nil
      go_simp
      refine hK.out _ _ (hHeld.alloc _) (fun hHeld => ?_)
      clear hK
      obtain ⟨X2, hX2⟩ : ∃ X, (X0.alloc (.cells Z78 78)).alloc (.cells Z78 78) = X := ⟨_, rfl⟩
      have q1 : Row X2 X0.heap.size Z78 78 := by rw [← hX2]; exact (Row.new X0 _ 78).alloc _
      have q2 : Row X2 (X0.heap.size + 1) Z78 78 := by rw [← hX2]; exact Row.newAt _ _ 78 _ (by simp)
      have hsz := hH0.size
      rw [hX2] at hHeld ⊢
      clear hX2
      refine wpAnyH_ready (rs := [6]) (by kernel_rfl) (by simp) ?_
      refine AllReadyH.cons rfl (fun K hK => ?_) AllReadyH.nil
      rw [if_pos (by rfl)]
      refine wp_store_row 78 _ _ rfl X0.heap.size A1 rfl rfl 78 Z78 q1 i1 s1 o1 ?_
      have hA := setRow_heap X2 X0.heap.size _ A1 78 _ q1
      have hB : Row (X2.setRow X0.heap.size A1) (X0.heap.size + 1) Z78 78 := Row.setOther q2 (by omega) A1
      have T3 : Turn no w1 (X2.setRow X0.heap.size A1) := hHeld.setRow X0.heap.size A1 (fun q => by omega)
      refine hK.out _ _ T3 (fun hHeld => ?_)
      clear hK
      refine wpAnyH_ready (rs := [7]) (by kernel_rfl) (by simp) ?_
      refine AllReadyH.cons rfl (fun K hK => ?_) AllReadyH.nil
      rw [if_pos (by rfl)]
      refine wp_store_row 78 _ _ rfl (X0.heap.size + 1) A2 rfl rfl 78 Z78 hB i2 s2 o2 ?_
      have hB2 := setRow_heap (X2.setRow X0.heap.size A1) (X0.heap.size + 1) _ A2 78 _ hB
      have hA2 : Row ((X2.setRow X0.heap.size A1).setRow (X0.heap.size + 1) A2) X0.heap.size A1 78 := Row.setOther hA (by omega) A2
      have T4 : Turn no w1 ((X2.setRow X0.heap.size A1).setRow (X0.heap.size + 1) A2) := hHeld.setRow (X0.heap.size + 1) A2 (fun q => by omega)
      refine hK.out _ _ T4 (fun hHeld => ?_)
      clear hK
      refine wpAnyH_done (by kernel_rfl) ?_ _
      go_simp
      go_wp2_with fail
      go_meet
      case rel => exact ⟨X0.heap.size, (X0.heap.size + 1), rfl, rfl, ⟨hA2, hB2, T4⟩⟩
    · skip
      go_simp
      refine hK.out _ _ (hHeld.alloc _) (fun hHeld => ?_)
      clear hK
      refine wpAnyH_ready (rs := [4]) (by kernel_rfl) (by simp) ?_
      refine AllReadyH.cons rfl (fun K hK => ?_) AllReadyH.nil
      go_simp
      refine hK.out _ _ (hHeld.alloc _) (fun hHeld => ?_)
      clear hK
      obtain ⟨X2, hX2⟩ : ∃ X, (X0.alloc (.cells Z78 78)).alloc (.cells Z78 78) = X := ⟨_, rfl⟩
      have q1 : Row X2 X0.heap.size Z78 78 := by rw [← hX2]; exact (Row.new X0 _ 78).alloc _
      have q2 : Row X2 (X0.heap.size + 1) Z78 78 := by rw [← hX2]; exact Row.newAt _ _ 78 _ (by simp)
      have hsz := hH0.size
      rw [hX2] at hHeld ⊢
      clear hX2
      refine wpAnyH_ready (rs := [6]) (by kernel_rfl) (by simp) ?_
      refine AllReadyH.cons rfl (fun K hK => ?_) AllReadyH.nil
      rw [if_pos (by rfl)]
      refine wp_store_row 78 _ _ rfl (X0.heap.size + 1) A1 rfl rfl 78 Z78 q2 i1 s1 o1 ?_
      have hA := setRow_heap X2 (X0.heap.size + 1) _ A1 78 _ q2
      have hB : Row (X2.setRow (X0.heap.size + 1) A1) X0.heap.size Z78 78 := Row.setOther q1 (by omega) A1
      have T3 : Turn no w1 (X2.setRow (X0.heap.size + 1) A1) := hHeld.setRow (X0.heap.size + 1) A1 (fun q => by omega)
      refine hK.out _ _ T3 (fun hHeld => ?_)
      clear hK
      refine wpAnyH_ready (rs := [7]) (by kernel_rfl) (by simp) ?_
      refine AllReadyH.cons rfl (fun K hK => ?_) AllReadyH.nil
      rw [if_pos (by rfl)]
      refine wp_store_row 78 _ _ rfl X0.heap.size A2 rfl rfl 78 Z78 hB i2 s2 o2 ?_
      have hB2 := setRow_heap (X2.setRow (X0.heap.size + 1) A1) X0.heap.size _ A2 78 _ hB
      have hA2 : Row ((X2.setRow (X0.heap.size + 1) A1).setRow X0.heap.size A2) (X0.heap.size + 1) A1 78 := Row.setOther hA (by omega) A2
      have T4 : Turn no w1 ((X2.setRow (X0.heap.size + 1) A1).setRow X0.heap.size A2) := hHeld.setRow X0.heap.size A2 (fun q => by omega)
      refine hK.out _ _ T4 (fun hHeld => ?_)
      clear hK
      refine wpAnyH_done (by kernel_rfl) ?_ _
      go_simp
      go_wp2_with fail
      go_meet
      case rel => exact ⟨(X0.heap.size + 1), X0.heap.size, rfl, rfl, ⟨hA2, hB2, T4⟩⟩
  case rest =>
    obtain ⟨g1, g2, rfl, rfl, HX⟩ := hcut
    obtain ⟨wx, rfl⟩ : ∃ wx : World, wx = wc := ⟨_, rfl⟩
    obtain ⟨R1, R2, Tx⟩ := HX.out
    have C := HF.out wx
    clear za zb s1 s2 o1 o2 hz8 HF Hc
    have HRR := shutX (And.intro R1 R2)
    go_upto_region 3 with (first | (guard_target =~ wpList _ _ _ ({ dst := _, op := Op.load 78 (Operand.tmp 3), .. } :: _) _ _; refine wpList_load_row rfl 78 (.tmp 3) rfl g1 rfl 78 A1 _ _ R1 Tryd.underlying78 rfl i1 ?_) | (guard_target =~ wpList _ _ _ ({ dst := _, op := Op.load 78 (Operand.tmp 4), .. } :: _) _ _; refine wpList_load_row rfl 78 (.tmp 4) rfl g2 rfl 78 A2 _ _ R2 Tryd.underlying78 rfl i2 ?_) | (guard_target =~ wpList _ _ _ ({ dst := _, op := Op.buildSlice 144 _ _, .. } :: _) _ _; refine wpList_bslice2 rfl 144 78 53 (.tmp 10) (.tmp 11) rfl (.agg A1) (.agg A2) rfl rfl HS2.out (by omega) (by omega) Tryd.underlying144 size29 (by kernel_rfl) ?_; rw [HFL.out]) | (go_at_call 103; refine C.mono ?_; clear C; rintro e w3 ⟨rfl, t3⟩))
    have T3 : Turn no wx w3 := ((Turn.refl no wx).alloc _).then_no t3
    have TT := shutX ((t0.then_no Tx).then_no T3)
    obtain ⟨a0, a1, a2, _, a36, aid⟩ := HV.out w3 g1 (Row.turn R1 T3 (fun q => q))
    obtain ⟨b0, b1, b2, _, b36, bid⟩ := HV2.out w3 g2 (Row.turn R2 T3 (fun q => q))
    have HID := shutX (And.intro aid bid)
    have HFE : Shut (firstE [x.a, x.b] = if plainE x.a = 0 then (if plainE x.b = 0 then 0 else plainE x.b) else plainE x.a) := ⟨rfl⟩
    have HPV : Shut (plainV x = if plainE x.a = 0 then (if plainE x.b = 0 then (if (x.a.k == x.b.k && x.a.h == x.b.h && x.a.r == x.b.r && x.a.f == x.b.f) = true then (if ltB x.a.id x.b.id = true then 0 else 42) else 41) else plainE x.b) else plainE x.a) := ⟨rfl⟩
    clear T3 t3 Tx R1 R2 HRR HX HV HV2 HFL HS2 i1 i2 aid bid HA HW1 Hbb t0
    generalize firstE [x.a, x.b] = fe at *
    by_cases he : fe = 0
    · have HEQ : Shut (EV = if (x.a.k == x.b.k && x.a.h == x.b.h && x.a.r == x.b.r && x.a.f == x.b.f) = true then (if ltB x.a.id x.b.id = true then 0 else 42) else 41) := ⟨by
        have h1 := HFE.out
        rw [← HEV.out, HPV.out]
        by_cases p1 : plainE x.a = 0
        · by_cases p2 : plainE x.b = 0
          · rw [if_pos p1, if_pos p2]
          · rw [if_pos p1, if_neg p2, he] at h1; exact absurd h1.symm p2
        · rw [if_neg p1, he] at h1; exact absurd h1.symm p1⟩
      subst he
      clear HFE HPV HEV
      generalize x.a.k = ak at *
      generalize x.a.h = ah at *
      generalize x.a.r = ar at *
      generalize x.a.f = af at *
      generalize x.b.k = bk at *
      generalize x.b.h = bh at *
      generalize x.b.r = br at *
      generalize x.b.f = bf at *
      generalize hLT : ltB x.a.id x.b.id = LT at *
      clear hLT
      generalize Lib.compareBytes x.a.id x.b.id = CM at *
      refine cut4b (ak == bk) (ah == bh) (ar == br) (af == bf) ?_ ?_ ?_ ?_ ?_
      · intro q1
        have n1 := bne_of q1
        have HE : Shut (EV = 41) := ⟨by rw [HEQ.out, q1]; rfl⟩
        clear HEQ
        go_wp2_with fail
        go_ret
        exact ⟨by rw [HE.out]; rfl, TT.out⟩
      · intro q1 q2
        have n1 := bne_of q1
        have n2 := bne_of q2
        have HE : Shut (EV = 41) := ⟨by rw [HEQ.out, q1, q2]; rfl⟩
        clear HEQ
        go_wp2_with fail
        go_ret
        exact ⟨by rw [HE.out]; rfl, TT.out⟩
      · intro q1 q2 q3
        have n1 := bne_of q1
        have n2 := bne_of q2
        have n3 := bne_of q3
        have HE : Shut (EV = 41) := ⟨by rw [HEQ.out, q1, q2, q3]; rfl⟩
        clear HEQ
        go_wp2_with fail
        go_ret
        exact ⟨by rw [HE.out]; rfl, TT.out⟩
      · intro q1 q2 q3 q4
        have n1 := bne_of q1
        have n2 := bne_of q2
        have n3 := bne_of q3
        have n4 := bne_of q4
        have HE : Shut (EV = 41) := ⟨by rw [HEQ.out, q1, q2, q3, q4]; rfl⟩
        clear HEQ
        go_wp2_with fail
        go_ret
        exact ⟨by rw [HE.out]; rfl, TT.out⟩
      · intro q1 q2 q3 q4
        have n1 := bne_of q1
        have n2 := bne_of q2
        have n3 := bne_of q3
        have n4 := bne_of q4
        have HE : Shut (EV = if LT = true then 0 else 42) := ⟨by rw [HEQ.out, q1, q2, q3, q4]; rfl⟩
        clear HEQ q1 q2 q3 q4
        go_upto_region 7 with fail
        clear n1 n2 n3 n4 a0 a1 a2 a36 b0 b1 b2 b36
        go_cut [48] from 43 to 48 (fun c wx => c = .bool (!LT) ∧ Shut (Turn no w3 wx))
        case first =>
          refine wp_region_held_drew (S := fun W => Turn no w3 W) (by kernel_rfl) (Turn.refl no w3).drew (fun hHeld => ?_)
          refine' wpAnyH_take (i := 0) (v := .pointer (some ⟨g1, 3, none⟩)) rfl (by kernel_rfl) (by kernel_rfl) (by kernel_rfl) (fun _ _ _ h => h) (Or.inl ⟨by kernel_rfl, fun W hW => ?y11⟩) hHeld ?r11
          · go_simp
          refine' wpAnyH_take (i := 1) (v := .slice (some ⟨g1, 3, none⟩) 32 32) rfl (by kernel_rfl) (by kernel_rfl) (by kernel_rfl) (fun _ _ _ h => h) (Or.inl ⟨by kernel_rfl, fun W hW => ?y12⟩) hHeld ?r12
          · go_simp
          refine' wpAnyH_take (i := 2) (v := .pointer (some ⟨g2, 3, none⟩)) rfl (by kernel_rfl) (by kernel_rfl) (by kernel_rfl) (fun _ _ _ h => h) (Or.inl ⟨by kernel_rfl, fun W hW => ?y13⟩) hHeld ?r13
          · go_simp
          refine' wpAnyH_take (i := 3) (v := .slice (some ⟨g2, 3, none⟩) 32 32) rfl (by kernel_rfl) (by kernel_rfl) (by kernel_rfl) (fun _ _ _ h => h) (Or.inl ⟨by kernel_rfl, fun W hW => ?y14⟩) hHeld ?r14
          · go_simp
          refine wpAnyH_ready (rs := [4]) (by kernel_rfl) (by simp) ?_
          refine AllReadyH.cons rfl (fun K hK => ?_) AllReadyH.nil
          go_simp
          refine (HCMP.out _ g1 g2 (fun j u hu => hHeld.keep (HID.out.1 j u hu) (fun q => q)) (fun j u hu => hHeld.keep (HID.out.2 j u hu) (fun q => q))).mono ?_
          rintro e w5 ⟨rfl, rfl⟩
          refine hK.out _ _ hHeld (fun hHeld => ?_)
          clear hK
          refine' wpAnyH_take (i := 5) (v := .bool (decide (0 ≤ CM))) rfl (by kernel_rfl) (by kernel_rfl) (by kernel_rfl) (fun _ _ _ h => h) (Or.inl ⟨by kernel_rfl, fun W hW => ?y15⟩) hHeld ?r15
          · go_simp
          refine wpAnyH_done (by kernel_rfl) ?_ _
          go_simp
          go_wp2_with fail
          go_meet
          case rel => exact ⟨by rw [HGE.out], ⟨hHeld⟩⟩
        case rest =>
          obtain ⟨rfl, HY⟩ := hcut
          cases LT with
          | true =>
            go_wp2_with fail
            go_ret
            exact ⟨by rw [HE.out]; rfl, TT.out.then_no HY.out⟩
          | false =>
            go_wp2_with fail
            go_ret
            exact ⟨by rw [HE.out]; rfl, TT.out.then_no HY.out⟩
    · have HEQ : Shut (EV = fe) := ⟨by
        have h1 := HFE.out
        rw [← HEV.out, HPV.out, h1]
        by_cases p1 : plainE x.a = 0
        · by_cases p2 : plainE x.b = 0
          · rw [if_pos p1, if_pos p2] at h1; exact absurd h1 he
          · simp only [if_pos p1, if_neg p2]
        · simp only [if_neg p1]⟩
      have n1 : (fe != 0) = true := by simpa using he
      clear he HFE HPV HEV a0 a1 a2 a36 b0 b1 b2 b36
      go_wp2_with fail
      go_ret
      exact ⟨by rw [HEQ.out]; rfl, TT.out⟩
end Go.Proofs.YtgimecdmleofeaaDoor

/- PlainEvidence of the document. -/
namespace Go.Proofs.YtgimecdmleofeaaDoor
open Go.RowKit
set_option linter.unusedVariables false

set_option maxRecDepth 100000 in
set_option maxHeartbeats 8000000 in
theorem rplainV45 (w : World) (x : Ev) (ho : x.fits) : Calls Tryd.prog 45 #[.agg x.cs.toArray] w fun e w' => e = .returned (.int .i64 (plainV x)) ∧ Turn no w w' := by
  have oa := ho.1.1
  have ob := ho.2.1
  obtain ⟨ra, rb⟩ := ev_range ho (Row.rangeZ (Row.new w x.cs.toArray 80))
  rw [Nat.zero_add] at rb
  have za := size78 oa
  have zb := size78 ob
  have zi : (Tryd.prog.info? 29).map (·.size) = some (x.a.id.map bv).length := by rw [List.length_map, oa.1]; exact size24
  have zj : (Tryd.prog.info? 29).map (·.size) = some (x.b.id.map bv).length := by rw [List.length_map, ob.1]; exact size24
  have t0 : Turn no w (w.alloc (.cells x.cs.toArray 80)) := (Turn.refl no w).alloc _
  have C1 := fun W => plain12 W x.a oa
  have C2 := fun W => plain12 W x.b ob
  have C3 := fun W => below13 W x.a.id x.b.id oa.1 ob.1
  have HC := shutX (And.intro C1 (And.intro C2 C3))
  obtain ⟨w1, hw1⟩ : ∃ W, w.alloc (.cells x.cs.toArray 80) = W := ⟨_, rfl⟩
  rw [hw1] at ra rb t0
  have hat : ∀ (W : World) (o : Nat) (y : Vt), y.ok → W.rangeAt w.heap.size o y.cs → W.cell? ⟨w.heap.size, o, none⟩ = some (.int .i64 y.k) ∧ W.cell? ⟨w.heap.size, o + 1, none⟩ = some (.int .u64 y.h) ∧ W.cell? ⟨w.heap.size, o + 2, none⟩ = some (.int .i64 y.r) ∧ W.cell? ⟨w.heap.size, o + 36, none⟩ = some (.int .u64 y.f) ∧ W.rangeAt w.heap.size (o + 3) (y.id.map bv) := fun W o y yo r => by
    refine ⟨r 0 _ ?_, r 1 _ ?_, r 2 _ ?_, r 36 _ ?_, fun j u hu => ?_⟩
    · simpa using y.c0
    · simpa using y.c1
    · simpa using y.c2
    · simpa using Vt.c36 yo
    · have := r (3 + j) u (by simpa using Vt.cid yo j u hu)
      rwa [show o + (3 + j) = o + 3 + j by omega] at this
  have Hc := shutX (fun W (t : Turn no w1 W) => And.intro (fun j u hu => t.keep (ra j u hu) (fun q => q) : W.rangeAt w.heap.size 0 x.a.cs) (fun j u hu => t.keep (rb j u hu) (fun q => q) : W.rangeAt w.heap.size 53 x.b.cs))
  have HAT := shutX (fun W t => And.intro (hat W 0 x.a oa (Hc.out W t).1) (hat W 53 x.b ob (Hc.out W t).2))
  obtain ⟨EV, HEV⟩ : ∃ E, Shut (plainV x = E) := ⟨_, ⟨rfl⟩⟩
  rw [HEV.out]
  have HPV : Shut (plainV x = if plainE x.a = 0 then (if plainE x.b = 0 then (if (x.a.k == x.b.k && x.a.h == x.b.h && x.a.r == x.b.r && x.a.f == x.b.f) = true then (if ltB x.a.id x.b.id = true then 0 else 42) else 41) else plainE x.b) else plainE x.a) := ⟨rfl⟩
  clear rb oa ob ho C1 C2 C3 hat
  generalize hC : x.cs.toArray = C at *
  clear hC
  generalize hD1 : x.a.cs = D1 at *
  generalize hD2 : x.b.cs = D2 at *
  clear hD1 hD2
  generalize hA1 : D1.toArray = A1 at *
  generalize hA2 : D2.toArray = A2 at *
  have HA := shutX (And.intro hA1 hA2)
  clear hA1 hA2
  go_enter Tryd.func45, Tryd.ntmps45
  go_upto_region 1 with fail
  try rw [hw1]
  clear hw1
  have C1 := HC.out.1 w1
  go_upto_region 2 with (first | (guard_target =~ wpList _ _ _ ({ dst := _, op := Op.load 78 (Operand.tmp 5), .. } :: _) _ _; refine wpList_load_mid rfl 78 (.tmp 5) rfl w.heap.size 0 rfl D1 _ ra Tryd.underlying78 rfl za ?_; rw [HA.out.1]) | (go_at_call 87; refine C1.mono ?_; clear C1; rintro e w2 ⟨rfl, t2⟩))
  by_cases h1 : plainE x.a = 0
  · rw [h1]
    have HPV2 : Shut (EV = if plainE x.b = 0 then (if (x.a.k == x.b.k && x.a.h == x.b.h && x.a.r == x.b.r && x.a.f == x.b.f) = true then (if ltB x.a.id x.b.id = true then 0 else 42) else 41) else plainE x.b) := ⟨by rw [← HEV.out, HPV.out, if_pos h1]⟩
    clear HPV HEV h1 ra
    have rb := (Hc.out w2 t2).2
    have C2 := HC.out.2.1 w2
    go_upto_region 5 with (first | (guard_target =~ wpList _ _ _ ({ dst := _, op := Op.load 78 (Operand.tmp 11), .. } :: _) _ _; refine wpList_load_mid rfl 78 (.tmp 11) rfl w.heap.size 53 rfl D2 _ rb Tryd.underlying78 rfl zb ?_; rw [HA.out.2]) | (go_at_call 87; refine C2.mono ?_; clear C2; rintro e w3 ⟨rfl, t3⟩))
    have T3 := t2.then_no t3
    have TT := shutX (t0.then_no T3)
    by_cases h2 : plainE x.b = 0
    · rw [h2]
      have HEQ : Shut (EV = if (x.a.k == x.b.k && x.a.h == x.b.h && x.a.r == x.b.r && x.a.f == x.b.f) = true then (if ltB x.a.id x.b.id = true then 0 else 42) else 41) := ⟨by rw [HPV2.out, if_pos h2]⟩
      obtain ⟨⟨a0, a1, a2, a36, aid⟩, ⟨b0, b1, b2, b36, bid⟩⟩ := HAT.out w3 T3
      simp only [Nat.zero_add, Nat.reduceAdd] at a1 a2 a36 aid b1 b2 b36 bid
      have HI := shutX (And.intro aid bid)
      have C3 := HC.out.2.2 w3
      clear HPV2 h2 rb aid bid HC Hc HAT HA t2 t3 T3 za zb
      generalize x.a.k = ak at *
      generalize x.a.h = ah at *
      generalize x.a.r = ar at *
      generalize x.a.f = af at *
      generalize x.b.k = bk at *
      generalize x.b.h = bh at *
      generalize x.b.r = br at *
      generalize x.b.f = bf at *
      generalize ltB x.a.id x.b.id = LT at *
      generalize x.a.id.map bv = Ia at *
      generalize x.b.id.map bv = Ib at *
      refine cut4b (ak == bk) (ah == bh) (ar == br) (af == bf) ?_ ?_ ?_ ?_ ?_
      · intro q1
        have n1 := bne_of q1
        have HE : Shut (EV = 41) := ⟨by rw [HEQ.out, q1]; rfl⟩
        clear HEQ
        go_wp2_with fail
        go_ret
        exact ⟨by rw [HE.out]; rfl, TT.out⟩
      · intro q1 q2
        have n1 := bne_of q1
        have n2 := bne_of q2
        have HE : Shut (EV = 41) := ⟨by rw [HEQ.out, q1, q2]; rfl⟩
        clear HEQ
        go_wp2_with fail
        go_ret
        exact ⟨by rw [HE.out]; rfl, TT.out⟩
      · intro q1 q2 q3
        have n1 := bne_of q1
        have n2 := bne_of q2
        have n3 := bne_of q3
        have HE : Shut (EV = 41) := ⟨by rw [HEQ.out, q1, q2, q3]; rfl⟩
        clear HEQ
        go_wp2_with fail
        go_ret
        exact ⟨by rw [HE.out]; rfl, TT.out⟩
      · intro q1 q2 q3 q4
        have n1 := bne_of q1
        have n2 := bne_of q2
        have n3 := bne_of q3
        have n4 := bne_of q4
        have HE : Shut (EV = 41) := ⟨by rw [HEQ.out, q1, q2, q3, q4]; rfl⟩
        clear HEQ
        go_wp2_with fail
        go_ret
        exact ⟨by rw [HE.out]; rfl, TT.out⟩
      · intro q1 q2 q3 q4
        have n1 := bne_of q1
        have n2 := bne_of q2
        have n3 := bne_of q3
        have n4 := bne_of q4
        have HE : Shut (EV = if LT = true then 0 else 42) := ⟨by rw [HEQ.out, q1, q2, q3, q4]; rfl⟩
        clear HEQ q1 q2 q3 q4
        go_upto_region 9 with fail
        clear n1 n2 n3 n4 a0 a1 a2 a36 b0 b1 b2 b36
        obtain ⟨aid, bid⟩ := HI.out
        cases LT with
        | true =>
          go_wp2_with (first | (guard_target =~ wpList _ _ _ ({ dst := _, op := Op.load 29 (Operand.tmp 52), .. } :: _) _ _; refine wpList_load_mid rfl 29 (.tmp 52) rfl w.heap.size 3 rfl Ia _ aid Tryd.underlying29 rfl zi ?_) | (guard_target =~ wpList _ _ _ ({ dst := _, op := Op.load 29 (Operand.tmp 55), .. } :: _) _ _; refine wpList_load_mid rfl 29 (.tmp 55) rfl w.heap.size 56 rfl Ib _ bid Tryd.underlying29 rfl zj ?_) | (go_at_call 88; refine C3.mono ?_; clear C3; rintro e w4 ⟨rfl, t4⟩))
          go_ret
          exact ⟨by rw [HE.out]; rfl, TT.out.then_no t4⟩
        | false =>
          go_wp2_with (first | (guard_target =~ wpList _ _ _ ({ dst := _, op := Op.load 29 (Operand.tmp 52), .. } :: _) _ _; refine wpList_load_mid rfl 29 (.tmp 52) rfl w.heap.size 3 rfl Ia _ aid Tryd.underlying29 rfl zi ?_) | (guard_target =~ wpList _ _ _ ({ dst := _, op := Op.load 29 (Operand.tmp 55), .. } :: _) _ _; refine wpList_load_mid rfl 29 (.tmp 55) rfl w.heap.size 56 rfl Ib _ bid Tryd.underlying29 rfl zj ?_) | (go_at_call 88; refine C3.mono ?_; clear C3; rintro e w4 ⟨rfl, t4⟩))
          go_ret
          exact ⟨by rw [HE.out]; rfl, TT.out.then_no t4⟩
    · have HEQ : Shut (EV = plainE x.b) := ⟨by rw [HPV2.out, if_neg h2]⟩
      have n1 : (plainE x.b != 0) = true := by simpa using h2
      clear HPV2 h2 rb HC Hc HAT HA
      generalize plainE x.b = pb at *
      go_wp2_with fail
      go_ret
      exact ⟨by rw [HEQ.out]; rfl, TT.out⟩
  · have HEQ : Shut (EV = plainE x.a) := ⟨by rw [← HEV.out, HPV.out, if_neg h1]⟩
    have n1 : (plainE x.a != 0) = true := by simpa using h1
    have TT := shutX (t0.then_no t2)
    clear HPV HEV h1 HC Hc HAT HA ra
    generalize plainE x.a = pa at *
    go_wp2_with fail
    go_ret
    exact ⟨by rw [HEQ.out]; rfl, TT.out⟩
end Go.Proofs.YtgimecdmleofeaaDoor
