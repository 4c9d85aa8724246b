/- Walks of the law: upTo, alive. -/
import Derived.Test.YtbkbecjgphjpkaaDoorL2
namespace Go.Proofs.YtbkbecjgphjpkaaDoor
open Go.RowKit
set_option linter.unusedVariables false

/-- Where the first k frames end. -/
def ce (l : List (List UInt8)) (k : Nat) : Nat := (cat (l.take k)).length
theorem ce_zero (l : List (List UInt8)) : ce l 0 = 0 := by simp [ce, cat]
theorem ce_le (l : List (List UInt8)) (k : Nat) : ce l k ≤ (cat l).length := cat_le (List.take_sublist _ _)
/-- What Scan must tell where the bytes are whole up to n. -/
def Upto (bs : List UInt8) (l : List (List UInt8)) (n : Nat) : Prop := ∀ k, k ≤ l.length → ce l k ≤ n → (k = l.length ∨ n < ce l (k + 1)) → scan bs = (l.take k, ce l k)

set_option maxRecDepth 100000 in
set_option maxHeartbeats 2000000 in
theorem upTo22 (w : World) (vb ve vl : Value) (bs : List UInt8) (g : List It) (n : Nat) (hb : Bs w vb bs) (he : Own w 3 ve ((endsOf (g.map (·.2))).map iv)) (hl : Own w 22 vl (g.map (·.1))) (hg : ∀ t ∈ g, Bs w t.1 t.2) (hL : LaidT w) (hle : bs.length ≤ 1099511627776) (hn : n ≤ 1099511627776) (hU : Upto bs (g.map (·.2)) n) :
    Calls Tryd.prog 22 #[vb, ve, vl, .int .i64 n] w fun e w' => e = .returned (.bool true) ∧ Turn no w w' := by
  obtain ⟨l, hll⟩ : ∃ l, g.map (·.2) = l := ⟨_, rfl⟩
  have hgl : g.length = l.length := by rw [← hll]; simp
  have hBl := Own.bl hl hg
  rw [hll] at he hU
  obtain ⟨N, hN⟩ : ∃ N, l.length = N := ⟨_, rfl⟩
  rw [hN] at hgl
  have hN63 : N ≤ 9223372036854775807 := by
    obtain ⟨_, _, _, h1, h2, _⟩ := hBl
    omega
  have c1 := scan_any w _ bs hb hL hle
  obtain ⟨ba, bn, bc, rfl⟩ : ∃ a n c, vb = .slice a n c := by obtain ⟨a, c, e⟩ := hb.slice; exact ⟨a, _, c, e⟩
  obtain ⟨ea, ec, rfl⟩ : ∃ a c, ve = .slice a N c := by
    obtain ⟨a, c, e⟩ := he.flen
    rw [List.length_map, endsOf_len, hN] at e
    exact ⟨a, c, e⟩
  have hE : ∀ j, j < N → ∃ q, ea = some ⟨q, 0, none⟩ ∧ w.cell? ⟨q, j, none⟩ = some (.int .i64 ((ce l (j + 1) : Nat) : Int)) := by
    intro j hj
    have h1 : ((endsOf l).map iv)[j]? = some (.int .i64 ((ce l (j + 1) : Nat) : Int)) := by rw [List.getElem?_map, endsOf_at l j (by omega)]; rfl
    rcases he.shape with ⟨_, q⟩ | ⟨q, cap, cur, e, _⟩
    · rw [q] at h1; simp at h1
    · cases e
      exact ⟨q, rfl, he.cell j _ h1⟩
  obtain ⟨la, lc, rfl, hs⟩ : ∃ la lc, vl = .slice la N lc ∧ (la = none ∧ lc = 0 ∧ N = 0 ∨ ∃ q, la = some ⟨q, 0, none⟩ ∧ N ≤ lc) := by
    rcases hl.shape with ⟨e, q⟩ | ⟨q, cap, cur, e, _, h1, _⟩
    · have : N = 0 := by rw [← hgl]; simpa using congrArg List.length q
      exact ⟨none, 0, by rw [e, this], Or.inl ⟨rfl, rfl, this⟩⟩
    · rw [List.length_map, hgl] at e h1
      exact ⟨_, _, e, Or.inr ⟨q, rfl, h1⟩⟩
  have HU := Hid.mk' hU
  have c1 := Hid.mk' c1
  clear he hb hl hU
  go_enter Tryd.func22, Tryd.ntmps22
  go_wp2_with fail
  go_loopw [9, 10] (fun a b wr => ∃ k : Nat, k ≤ N ∧ a = .int .i64 k ∧ b = .int .i64 (ce l k : Nat) ∧ ce l k ≤ n ∧ w = wr) (fun a _ _ => N - (intOf a).toNat)
  case atStart => exact ⟨0, Nat.zero_le _, rfl, by rw [ce_zero]; rfl, by rw [ce_zero]; omega, rfl⟩
  case round =>
    obtain ⟨k, hk, rfl, rfl, hck, rfl⟩ := hrel
    by_cases hlt : k < N ∧ ce l (k + 1) ≤ n
    · obtain ⟨hlt, hce⟩ := hlt
      have hlt' : (k : Int) < (N : Int) := by omega
      have hce' : ((ce l (k + 1) : Nat) : Int) ≤ (n : Int) := by omega
      obtain ⟨q, rfl, d⟩ := hE k hlt
      clear hE
      obtain ⟨x, hx⟩ : ∃ x, ce l (k + 1) = x := ⟨_, rfl⟩
      rw [hx] at d hce hce'
      have hx := Hid.mk' hx
      have hk1 : Hid (k + 1 ≤ N) := by show k + 1 ≤ N; omega
      go_wp2_with fail
      go_roundw
      case rel => exact ⟨k + 1, hk1.out, by go_num, by rw [hx.out], by rw [hx.out]; exact hce, by trivial⟩
      case measure => have := hk1.out; simp [intOf]; omega
    · have hfin : scan bs = (l.take k, ce l k) := HU.out k (by omega) hck (by omega)
      rw [hfin] at c1
      have c2 := c1.out
      simp only at c2
      have c2 := Hid.mk' c2
      have cT : ∀ W a', Turn no w W → Bl w (.slice a' k lc) (g.take k) → ∀ v' , Ls w.heap.size W v' (l.take k) → Calls Tryd.prog 18 #[v', .slice a' k lc] W fun e w' => e = .returned (.bool true) ∧ Turn no W w' := by
        intro W a' t hB v' hv
        obtain ⟨ts, h1, _, h3⟩ := hv.bl
        exact sameLists18 W _ _ ts (g.take k) h3 (hB.turn_no t) (by rw [h1, ← hll, List.map_take])
      have hBk := hBl.take k (by omega)
      obtain ⟨at', hat⟩ : ∃ x, ce l k = x := ⟨_, rfl⟩
      rw [hat] at c2 ⊢
      have hq : ((at' : Int) == (at' : Int)) = true := by simp
      clear c1 hfin hat
      have cT := Hid.mk' cT
      by_cases hkN : k < N
      · have hlt' : (k : Int) < (N : Int) := by omega
        have hce' : ¬ ((ce l (k + 1) : Nat) : Int) ≤ (n : Int) := by omega
        obtain ⟨q, rfl, d⟩ := hE k hkN
        clear hE
        generalize ce l (k + 1) = x at *
        rcases hs with ⟨_, _, h⟩ | ⟨lq, rfl, hlc⟩
        · omega
        have hklc : (k : Int) ≤ (lc : Int) := by omega
        go_wp2_with fail
        refine c2.out.mono ?_
        rintro e w1 ⟨v', rfl, L1, t1⟩
        obtain ⟨ra, rc, rfl⟩ := L1.form
        have c3 := cT.out _ _ t1 hBk _ L1
        rw [List.length_take, Nat.min_eq_left (by omega)] at c3 L1 ⊢
        go_wp2_with fail
        refine c3.mono ?_
        rintro e w2 ⟨rfl, t2⟩
        go_wp2_with fail
        go_ret
        exact ⟨rfl, t1.then_no t2⟩
      · have hlt' : ¬ (k : Int) < (N : Int) := by omega
        have hkN' : k = N := by omega
        clear hE
        clear hlt
        rcases hs with ⟨rfl, rfl, h⟩ | ⟨lq, rfl, hlc⟩
        · have hk0 : k = 0 := by omega
          subst hk0
          subst h
          clear hkN' hkN hlt'
          go_wp2_with fail
          refine c2.out.mono ?_
          rintro e w1 ⟨v', rfl, L1, t1⟩
          obtain ⟨ra, rc, rfl⟩ := L1.form
          have c3 := cT.out _ _ t1 hBk _ L1
          rw [List.length_take, Nat.min_eq_left (by omega)] at c3 L1 ⊢
          go_wp2_with fail
          refine c3.mono ?_
          rintro e w2 ⟨rfl, t2⟩
          go_wp2_with fail
          go_ret
          exact ⟨rfl, t1.then_no t2⟩
        · have hklc : (k : Int) ≤ (lc : Int) := by omega
          clear hkN'
          go_wp2_with fail
          refine c2.out.mono ?_
          rintro e w1 ⟨v', rfl, L1, t1⟩
          obtain ⟨ra, rc, rfl⟩ := L1.form
          have c3 := cT.out _ _ t1 hBk _ L1
          rw [List.length_take, Nat.min_eq_left (by omega)] at c3 L1 ⊢
          go_wp2_with fail
          refine c3.mono ?_
          rintro e w2 ⟨rfl, t2⟩
          go_wp2_with fail
          go_ret
          exact ⟨rfl, t1.then_no t2⟩
end Go.Proofs.YtbkbecjgphjpkaaDoor
