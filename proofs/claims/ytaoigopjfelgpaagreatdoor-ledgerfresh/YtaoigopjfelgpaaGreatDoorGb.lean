/- Texts in one. -/
import Derived.Test.YtaoigopjfelgpaaGreatDoorGd
import Derived.Test.YtaoigopjfelgpaaGreatDoorJa
import Derived.Test.YtaoigopjfelgpaaGreatDoorDa
/- Find, of the program and of the document. -/
namespace Go.Proofs.YtaoigopjfelgpaaGreatDoor
open Go.RowKit
set_option linter.unusedVariables false

section
variable {w : World} {g : Nat} {cs : Array Value} {e : TypeId}
theorem Row.setSame (h : Row w g cs e) (ds : Array Value) : Row (w.setRow g ds) g ds e := setRow_heap w g cs ds e _ h
end
section
variable {P : Program} {ops : Array Oper} {rest : List Oper} {o : Oper} {a : Act} {w : World} {Q : Exit → Act → World → Prop}
end
/-- An account's cells. -/
def acA5 (m : Ac) : Array Value := #[.int .u64 m.ad, .int .u64 m.bal, .int .u64 m.bond, .int .u64 m.nonce, .bool m.jail]
def ac0 : Ac := ⟨0, 0, 0, 0, false⟩
theorem size39 (m : Ac) : (Tryz.prog.info? 50).map (·.size) = some (acA5 m).size := by kernel_rfl
theorem one39 (m : Ac) : (acA5 m).all (·.oneCell') = true := by simp [acA5, Value.oneCell']
/-- Where an address stands first. -/
def AtP (l : List Ac) (x : Nat) (k : Int) : Prop := (k = -1 ∧ ∀ m ∈ l, m.ad ≠ x) ∨ (∃ (j : Nat) (m : Ac), k = j ∧ l[j]? = some m ∧ m.ad = x ∧ ∀ i n, i < j → l[i]? = some n → n.ad ≠ x)
/-- What Find answers. -/
def FindP (l : List Ac) (x : Nat) (m : Ac) (e : Int) : Prop := (e = 85 ∧ m = ac0 ∧ (x = 0 ∨ ∀ n ∈ l, n.ad ≠ x)) ∨ (e = 0 ∧ x ≠ 0 ∧ ∃ j : Nat, l[j]? = some m ∧ m.ad = x ∧ ∀ (i : Nat) (n : Ac), i < j → l[i]? = some n → n.ad ≠ x)
theorem FindP.one {l : List Ac} {x : Nat} {m m' : Ac} {e e' : Int} (h : FindP l x m e) (h' : FindP l x m' e') : m = m' ∧ e = e' := by
  rcases h with ⟨rfl, rfl, h⟩ | ⟨rfl, h0, j, hj, hm, hf⟩
  · rcases h' with ⟨rfl, rfl, _⟩ | ⟨rfl, h0, j, hj, hm, hf⟩
    · exact ⟨rfl, rfl⟩
    · rcases h with h | h
      · exact absurd h h0
      · exact absurd hm (h _ (List.mem_of_getElem? hj))
  · rcases h' with ⟨rfl, rfl, h⟩ | ⟨rfl, _, j', hj', hm', hf'⟩
    · rcases h with h | h
      · exact absurd h h0
      · exact absurd hm (h _ (List.mem_of_getElem? hj))
    · rcases Nat.lt_trichotomy j j' with q | q | q
      · exact absurd hm (hf' j m q hj)
      · subst q; rw [hj] at hj'; cases hj'; exact ⟨rfl, rfl⟩
      · exact absurd hm' (hf j' m' q hj')
set_option maxRecDepth 100000 in
set_option maxHeartbeats 4000000 in
theorem index29g (w : World) (v : Value) (l : List Ac) (hv : As w v l) (p : Addr) (x : Nat) (hp : w.cell? p = some (.int .u64 x)) : Calls Tryz.prog 52 #[v, .func (.func 53) #[] #[.pointer (some p)]] w fun e w' => ∃ k : Int, e = .returned (.int .i64 k) ∧ AtP l x k ∧ Turn no w w' := by
  obtain ⟨a, cap, rfl, h⟩ := hv
  have HC := shut h.cells
  have HP := shut hp
  have hle : l.length ≤ 9223372036854775807 := by have := h.le; have := h.cap; simp only [maxLen] at this; omega
  clear h hp
  obtain ⟨n, hn⟩ : ∃ n, Hid (l.length = n) := ⟨_, rfl⟩
  have hn' : l.length = n := hn.out
  rw [hn'] at hle ⊢
  clear hn'
  go_enter Tryz.func52, Tryz.ntmps52
  go_wp2_with fail
  go_loopw [8] (fun c wr => ∃ k : Nat, k ≤ n ∧ c = .int .i64 k ∧ Shut ((∀ i m, i < k → l[i]? = some m → m.ad ≠ x) ∧ Turn no w wr)) (fun c _ => n - (intOf c).toNat)
  case atStart => exact ⟨0, by omega, rfl, fun i m q => absurd q (Nat.not_lt_zero _), Turn.refl _ _⟩
  case round =>
    obtain ⟨k, hk, rfl, HI⟩ := hrel
    by_cases hlt : k < n
    · obtain ⟨m, hm⟩ : ∃ m, l[k]? = some m := ⟨l[k]'(by rw [hn.out]; exact hlt), List.getElem?_eq_getElem _⟩
      obtain ⟨b, off, rfl, c0, c1, c2, c3, c4⟩ := HC.out k m hm
      have T := HI.out.2
      have c0 := T.keep c0 (fun q => q)
      have c1 := T.keep c1 (fun q => q)
      have c2 := T.keep c2 (fun q => q)
      have c3 := T.keep c3 (fun q => q)
      have c4 := T.keep c4 (fun q => q)
      have hcl := mine30 wr m.ad m.bal m.bond m.nonce m.jail p x (T.keep HP.out (fun q => q))
      have hlt' : (k : Int) < (n : Int) := by omega
      have hk1 : Hid (k + 1 ≤ n) := hlt
      have HM := shut hm
      clear hm T
      by_cases hx : m.ad = x
      · have hx' : ((m.ad : Int) == (x : Int)) = true := by simp; omega
        rw [hx'] at hcl
        have HX := shut hx
        clear hx hx'
        go_wp2_with fail
        refine hcl.mono ?_
        rintro e w1 ⟨rfl, t1⟩
        have HT := shut (HI.out.2.then_no t1)
        clear hcl t1 c0 c1 c2 c3 c4
        go_wp2_with fail
        go_ret
        exact ⟨_, rfl, Or.inr ⟨k, m, rfl, HM.out, HX.out, fun i n hi hn => HI.out.1 i n hi hn⟩, HT.out⟩
      · have hx' : ((m.ad : Int) == (x : Int)) = false := by simp; omega
        rw [hx'] at hcl
        have HX := shut hx
        clear hx hx'
        go_wp2_with fail
        refine hcl.mono ?_
        rintro e w1 ⟨rfl, t1⟩
        have HN : Shut ((∀ i m, i < k + 1 → l[i]? = some m → m.ad ≠ x) ∧ Turn no w w1) := ⟨fun i y hi hy => by
          rcases Nat.lt_or_ge i k with q | q
          · exact HI.out.1 i y q hy
          · have : i = k := by omega
            subst this
            rw [HM.out] at hy
            cases hy
            exact HX.out, HI.out.2.then_no t1⟩
        clear hcl t1 c0 c1 c2 c3 c4
        go_wp2_with fail
        go_roundw
        case rel => exact ⟨k + 1, hk1.out, by go_num, HN⟩
        case measure => have := hk1.out; simp [intOf]; omega
    · have hlt' : ¬ (k : Int) < (n : Int) := by omega
      have HN : Shut (∀ m ∈ l, m.ad ≠ x) := fun m hm => by
        obtain ⟨i, hi, rfl⟩ := List.getElem_of_mem hm
        exact HI.out.1 i _ (by have := hn.out; omega) (List.getElem?_eq_getElem hi)
      have HT := shut HI.out.2
      clear HC HI
      go_wp2_with fail
      go_ret
      exact ⟨_, rfl, Or.inl ⟨rfl, HN.out⟩, HT.out⟩
set_option maxRecDepth 100000 in
set_option maxHeartbeats 4000000 in
theorem place32 (w : World) (va vr : Value) (l : List Ac) (ha : As w va l) (b s : Int) (x : Nat) : Calls Tryz.prog 37 #[.agg #[va, vr, .int .u64 b, .int .u64 s], .int .u64 x] w fun e w' => ∃ k : Int, e = .returned (.int .i64 k) ∧ ((x = 0 ∧ k = -1) ∨ (x ≠ 0 ∧ AtP l x k)) ∧ Turn no w w' := by
  obtain ⟨a, cap, rfl, h⟩ := ha
  have hle : l.length ≤ 9223372036854775807 := by have := h.le; have := h.cap; simp only [maxLen] at this; omega
  obtain ⟨w1, hw1⟩ : ∃ w1, w.alloc (.cells #[.slice a l.length cap, vr, .int .u64 b, .int .u64 s] 30) = w1 := ⟨_, rfl⟩
  have t1 : Turn no w w1 := by rw [← hw1]; exact (Turn.refl no w).alloc _
  have R1 : Row w1 w.heap.size #[.slice a l.length cap, vr, .int .u64 b, .int .u64 s] 30 := by rw [← hw1]; exact Row.new w _ 30
  have dd := R1.cell 0 _ rfl
  have HC := shut (h.turn_no t1).cells
  have HT1 := shut t1
  clear h t1 R1
  obtain ⟨n, hn⟩ : ∃ n, Hid (l.length = n) := ⟨_, rfl⟩
  have hn' : l.length = n := hn.out
  rw [hn'] at hle hw1 ⊢
  have d0 : w1.cell? ⟨w.heap.size, 0, none⟩ = some (.slice a n cap) := by rw [← hn']; exact dd
  clear hn' dd
  go_enter Tryz.func37, Tryz.ntmps37
  go_wp2_with fail
  try rw [hw1]
  clear hw1
  go_loopw [5] (fun c wr => ∃ k : Nat, k ≤ n ∧ c = .int .i64 k ∧ wr = w1 ∧ Shut (x = 0 ∨ ∀ i m, i < k → l[i]? = some m → m.ad ≠ x)) (fun c _ => n - (intOf c).toNat)
  case atStart => exact ⟨0, by omega, rfl, rfl, Or.inr fun i m q => absurd q (Nat.not_lt_zero _)⟩
  case round =>
    obtain ⟨k, hk, rfl, rfl, HI⟩ := hrel
    by_cases hlt : k < n
    · obtain ⟨m, hm⟩ : ∃ m, l[k]? = some m := ⟨l[k]'(by rw [hn.out]; exact hlt), List.getElem?_eq_getElem _⟩
      obtain ⟨b, off, rfl, c0, _⟩ := HC.out k m hm
      have hlt' : (k : Int) < (n : Int) := by omega
      have hk1 : Hid (k + 1 ≤ n) := hlt
      have HM := shut hm
      clear hm
      by_cases hx : m.ad = x
      · have hx' : ((m.ad : Int) == (x : Int)) = true := by simp; omega
        by_cases x0 : x = 0
        · have x0' : ((x : Int) != 0) = false := by simp; omega
          have HN : Shut (x = 0 ∨ ∀ i m, i < k + 1 → l[i]? = some m → m.ad ≠ x) := Or.inl x0
          clear hx x0
          go_wp2_with fail
          go_roundw
          case rel => exact ⟨k + 1, hk1.out, by go_num, by trivial, HN⟩
          case measure => have := hk1.out; simp [intOf]; omega
        · have x0' : ((x : Int) != 0) = true := by simp; omega
          have HN : Shut (x ≠ 0 ∧ AtP l x k) := ⟨x0, Or.inr ⟨k, m, rfl, HM.out, hx, fun i y hi hy => by
            rcases HI.out with q | q
            · exact absurd q x0
            · exact q i y hi hy⟩⟩
          clear hx x0
          go_wp2_with fail
          go_ret
          exact ⟨_, rfl, Or.inr HN.out, HT1.out⟩
      · have hx' : ((m.ad : Int) == (x : Int)) = false := by simp; omega
        have HN : Shut (x = 0 ∨ ∀ i m, i < k + 1 → l[i]? = some m → m.ad ≠ x) := by
          rcases HI.out with q | q
          · exact Or.inl q
          · refine Or.inr fun i y hi hy => ?_
            rcases Nat.lt_or_ge i k with r | r
            · exact q i y r hy
            · have : i = k := by omega
              subst this
              rw [HM.out] at hy
              cases hy
              exact hx
        clear hx
        go_wp2_with fail
        go_roundw
        case rel => exact ⟨k + 1, hk1.out, by go_num, by trivial, HN⟩
        case measure => have := hk1.out; simp [intOf]; omega
    · have hlt' : ¬ (k : Int) < (n : Int) := by omega
      have HN : Shut ((x = 0 ∧ (-1 : Int) = -1) ∨ (x ≠ 0 ∧ AtP l x (-1))) := by
        by_cases x0 : x = 0
        · exact Or.inl ⟨x0, rfl⟩
        · refine Or.inr ⟨x0, Or.inl ⟨rfl, fun m hm => ?_⟩⟩
          obtain ⟨i, hi, rfl⟩ := List.getElem_of_mem hm
          rcases HI.out with q | q
          · exact absurd q x0
          · exact q i _ (by have := hn.out; omega) (List.getElem?_eq_getElem hi)
      clear HC HI
      go_wp2_with fail
      go_ret
      exact ⟨_, rfl, Or.imp (fun q => ⟨q.1, rfl⟩) (fun q => q) HN.out, HT1.out⟩
end Go.Proofs.YtaoigopjfelgpaaGreatDoor



/- Find of the program and of the document. -/
namespace Go.Proofs.YtaoigopjfelgpaaGreatDoor
open Go.RowKit
set_option linter.unusedVariables false

set_option maxRecDepth 100000 in
set_option maxHeartbeats 4000000 in
theorem find13g (w : World) (va vr : Value) (l : List Ac) (ha : As w va l) (b s : Int) (x : Nat) : Calls Tryz.prog 19 #[.agg #[va, vr, .int .u64 b, .int .u64 s], .int .u64 x] w fun e w' => ∃ m k, e = .returned (.tuple #[.agg (acA5 m), .int .i64 k]) ∧ FindP l x m k ∧ Turn no w w' := by
  have HA := shut ha
  obtain ⟨a, cap, rfl, h⟩ := ha
  clear h
  obtain ⟨w0, hw0⟩ : ∃ w0, ((w.alloc (.cells #[.slice a l.length cap, vr, .int .u64 b, .int .u64 s] 30)).alloc (.cells #[.int .u64 x] 26)).alloc (.cells #[.int .u64 0, .int .u64 0, .int .u64 0, .int .u64 0, .bool false] 50) = w0 := ⟨_, rfl⟩
  have T0 : Turn no w w0 := by rw [← hw0]; exact (((Turn.refl no w).alloc _).alloc _).alloc _
  have RB : Row w0 w.heap.size #[.slice a l.length cap, vr, .int .u64 b, .int .u64 s] 30 := by rw [← hw0]; exact ((Row.new w _ 30).alloc _).alloc _
  have RX : Row w0 (w.heap.size + 1) #[.int .u64 x] 26 := by rw [← hw0]; exact (Row.newAt _ _ _ _ (by simp)).alloc _
  have RZ : Row w0 (w.heap.size + 1 + 1) (acA5 ac0) 50 := by rw [← hw0]; exact Row.newAt _ _ _ _ (by simp)
  have hi := index29g w0 _ l (HA.out.turn_no T0) ⟨w.heap.size + 1, 0, none⟩ x (RX.cell 0 _ rfl)
  have HK : Shut (∀ W, Turn no w0 W → W.cell? ⟨w.heap.size, 0, none⟩ = some (.slice a l.length cap) ∧ W.cell? ⟨w.heap.size + 1, 0, none⟩ = some (.int .u64 x) ∧ Row W (w.heap.size + 1 + 1) (acA5 ac0) 50 ∧ Turn no w W) := fun W t =>
    ⟨t.keep (RB.cell 0 _ rfl) (fun q => q), t.keep (RX.cell 0 _ rfl) (fun q => q), RZ.turn t (fun q => q), T0.then_no t⟩
  have hmf : ∀ (fn : Fn) (first cap : Array Value) (w : World), (Instr.makeFunc fn first cap).run Tryz.prog w = .ok (.func fn first cap) w := fun _ _ _ _ => rfl
  have HLE : Shut (l.length ≤ 9223372036854775807) := by
    obtain ⟨_, _, e, h⟩ := HA.out
    have := h.le; have := h.cap; simp only [maxLen] at this
    show _ ≤ _
    omega
  obtain ⟨g0, g1, _, _⟩ := HK.out w0 (Turn.refl no w0)
  clear RB RX RZ T0
  obtain ⟨n, hn⟩ : ∃ n, Hid (l.length = n) := ⟨_, rfl⟩
  have hn' : l.length = n := hn.out
  rw [hn'] at hi HK hw0 g0 HA HLE ⊢
  clear hn'
  go_enter Tryz.func19, Tryz.ntmps19
  go_wp2_with fail
  refine hi.mono ?_
  clear hi
  rintro e w1 ⟨k, rfl, hk, t1⟩
  obtain ⟨y0, y1, hZ, hT⟩ := HK.out w1 t1
  have HT := shut hT
  have HZ := shut hZ
  have HAP := shut hk
  clear hT hZ hk g0 g1 hmf hw0 HK t1
  by_cases x0 : x = 0
  · have x0' : ((x : Int) == 0) = true := by simp; omega
    have HF : Shut (FindP l x ac0 85) := Or.inl ⟨rfl, rfl, Or.inl x0⟩
    have hz := HZ.out
    have s1 := size39 ac0
    have s2 := one39 ac0
    clear x0
    by_cases k0 : k < 0
    · go_wp2_with (refine wpList_store_anyN rfl rfl 50 (.tmp 4) (.tmp 17) rfl (w.heap.size + 1 + 1) (acA5 ac0) rfl rfl 50 _ hz s1 rfl s2 ?_; intro w9 R9 T9)
      exact ⟨rfl, _, results_cell_row_tmp (g := w.heap.size + 1 + 1) (cs := acA5 ac0) (t := 50) rfl _ _ _ _ rfl R9 Tryz.underlying50 rfl (size39 ac0), _, _, rfl, HF.out, HT.out.trans T9 (fun i hi q => by omega)⟩
    · go_wp2_with (refine wpList_store_anyN rfl rfl 50 (.tmp 4) (.tmp 17) rfl (w.heap.size + 1 + 1) (acA5 ac0) rfl rfl 50 _ hz s1 rfl s2 ?_; intro w9 R9 T9)
      exact ⟨rfl, _, results_cell_row_tmp (g := w.heap.size + 1 + 1) (cs := acA5 ac0) (t := 50) rfl _ _ _ _ rfl R9 Tryz.underlying50 rfl (size39 ac0), _, _, rfl, HF.out, HT.out.trans T9 (fun i hi q => by omega)⟩
  · have x0' : ((x : Int) == 0) = false := by simp; omega
    rcases HAP.out with ⟨rfl, hno⟩ | ⟨j, m, rfl, hj, hm, hf⟩
    · have HF : Shut (FindP l x ac0 85) := Or.inl ⟨rfl, rfl, Or.inr hno⟩
      have hz := HZ.out
      have s1 := size39 ac0
      have s2 := one39 ac0
      clear x0 hno
      go_wp2_with (refine wpList_store_anyN rfl rfl 50 (.tmp 4) (.tmp 17) rfl (w.heap.size + 1 + 1) (acA5 ac0) rfl rfl 50 _ hz s1 rfl s2 ?_; intro w9 R9 T9)
      exact ⟨rfl, _, results_cell_row_tmp (g := w.heap.size + 1 + 1) (cs := acA5 ac0) (t := 50) rfl _ _ _ _ rfl R9 Tryz.underlying50 rfl (size39 ac0), _, _, rfl, HF.out, HT.out.trans T9 (fun i hi q => by omega)⟩
    · have HF : Shut (FindP l x m 0) := Or.inr ⟨rfl, x0, j, hj, hm, hf⟩
      obtain ⟨bb, off, e, c0, c1, c2, c3, c4⟩ := (HA.out.turn_no HT.out).cells j m hj
      subst e
      have hz := HZ.out
      have s1 := size39 m
      have s2 := one39 m
      have hjn : (j : Int) < (n : Int) := by have := (List.getElem?_eq_some_iff.1 hj).1; have := hn.out; omega
      have hj0 : ¬ (j : Int) < 0 := by omega
      clear x0 hf hm hj
      go_wp2_with (refine wpList_store_anyN rfl rfl 50 (.tmp 4) (.tmp 22) rfl (w.heap.size + 1 + 1) (acA5 m) rfl rfl 50 _ hz s1 rfl s2 ?_; intro w9 R9 T9)
      exact ⟨rfl, _, results_cell_row_tmp (g := w.heap.size + 1 + 1) (cs := acA5 m) (t := 50) rfl _ _ _ _ rfl R9 Tryz.underlying50 rfl (size39 m), _, _, rfl, HF.out, HT.out.trans T9 (fun i hi q => by omega)⟩
end Go.Proofs.YtaoigopjfelgpaaGreatDoor



/- Find of the program and of the document. -/
namespace Go.Proofs.YtaoigopjfelgpaaGreatDoor
open Go.RowKit
set_option linter.unusedVariables false

end Go.Proofs.YtaoigopjfelgpaaGreatDoor


