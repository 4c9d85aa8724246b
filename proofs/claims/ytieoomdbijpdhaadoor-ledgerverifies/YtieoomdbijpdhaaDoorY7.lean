/- between; Verify of the document. -/
import Derived.Test.YtieoomdbijpdhaaDoorY4
import Derived.BigQuiet
namespace Go.Proofs.YtieoomdbijpdhaaDoor
open Go.RowKit
set_option linter.unusedVariables false

def btB (a : Nat) (m n : Ac) (q s : Pf) : Bool := (decide (a ≤ m.ad)) || (decide (n.ad ≤ a)) || (s.t != q.t) || (q.i == 9223372036854775807) || (s.i != IntKind.i64.wrap (q.i + 1))
def btE (a : Nat) (m n : Ac) (q s : Pf) : Int := if btB a m n q s = true then 20 else 0
set_option maxRecDepth 100000 in
set_option maxHeartbeats 16000000 in
theorem between15 (w : World) (R : List UInt8) (hR : R.length = 32) (a : Nat) (va vp : Value) (m n : Ac) (l : List Ac) (q s : Pf) (qs : List Pf) (ha : As w va (m :: n :: l)) (hq : Qs w vp (q :: s :: qs)) :
    Calls Tryd.prog 15 #[.agg (wtL R va vp).toArray, .int .u64 a] w fun e w' => e = .returned (.int .i64 (btE a m n q s)) ∧ Turn no w w' := by
  obtain ⟨a0, ca, rfl, hA⟩ := ha
  obtain ⟨p0, cp, rfl, hQ⟩ := hq
  obtain ⟨ab, ao, rfl, ra⟩ := hA.range 0 m rfl
  obtain ⟨ab1, ao1, e0, rn⟩ := hA.range 1 n rfl
  cases e0
  obtain ⟨pb, po, a', c', e1, hs, rp⟩ := hQ.cells 0 q rfl
  cases e1
  obtain ⟨pb1, po1, b', d', e2, hs2, rs⟩ := hQ.cells 1 s rfl
  cases e2
  rw [Nat.zero_mul, Nat.add_zero] at ra rp
  rw [Nat.one_mul] at rn rs
  obtain ⟨na, hna⟩ : ∃ n', Hid ((m :: n :: l).length = n') := ⟨_, rfl⟩
  obtain ⟨np, hnp⟩ : ∃ n, Hid ((q :: s :: qs).length = n) := ⟨_, rfl⟩
  have na0 : (0 : Int) < (na : Int) := by rw [← hna.out]; simp; omega
  have np0 : (0 : Int) < (np : Int) := by rw [← hnp.out]; simp; omega
  have na1 : (1 : Int) < (na : Int) := by rw [← hna.out]; simp; omega
  have np1 : (1 : Int) < (np : Int) := by rw [← hnp.out]; simp; omega
  have nal : na ≤ 9223372036854775807 := by have := hA.le; have := hA.cap; have := hna.out; simp only [maxLen] at *; omega
  have npl : np ≤ 9223372036854775807 := by have := hQ.le; have := hQ.cap; have := hnp.out; simp only [maxLen] at *; omega
  rw [hna.out, hnp.out]
  obtain ⟨w0, hw0⟩ : ∃ w0, w.alloc (.cells (wtL R (.slice (some ⟨ab, ao, none⟩) na ca) (.slice (some ⟨pb, po, none⟩) np cp)).toArray 29) = w0 := ⟨_, rfl⟩
  have T0 : Turn no w w0 := by rw [← hw0]; exact (Turn.refl no w).alloc _
  have RW : Row w0 w.heap.size (wtL R (.slice (some ⟨ab, ao, none⟩) na ca) (.slice (some ⟨pb, po, none⟩) np cp)).toArray 29 := by rw [← hw0]; exact Row.new w _ 29
  have y0 := RW.cell 32 _ (wtL_32 hR _ _)
  have y1 := RW.cell 33 _ (wtL_33 hR _ _)
  have z0 := T0.keep (ra 0 _ (show (acs m)[(0 : Nat)]? = some (.int .u64 m.ad) from rfl)) (fun q => q)
  have z1 := T0.keep (rn 0 _ (show (acs n)[(0 : Nat)]? = some (.int .u64 n.ad) from rfl)) (fun q => q)
  have u0 := T0.keep (rp 0 _ (show (pfC q a' c')[(0 : Nat)]? = some (.int .i64 q.t) from rfl)) (fun q => q)
  have u1 := T0.keep (rp 1 _ (show (pfC q a' c')[(1 : Nat)]? = some (.int .i64 q.i) from rfl)) (fun q => q)
  have v0 := T0.keep (rs 0 _ (show (pfC s b' d')[(0 : Nat)]? = some (.int .i64 s.t) from rfl)) (fun q => q)
  have v1 := T0.keep (rs 1 _ (show (pfC s b' d')[(1 : Nat)]? = some (.int .i64 s.i) from rfl)) (fun q => q)
  rw [Nat.add_zero] at z0 z1 u0 v0
  have HB : Shut (btB a m n q s = ((decide (a ≤ m.ad)) || (decide (n.ad ≤ a)) || (s.t != q.t) || (q.i == 9223372036854775807) || (s.i != IntKind.i64.wrap (q.i + 1)))) := rfl
  have HE : Shut (btE a m n q s = if btB a m n q s = true then 20 else 0) := rfl
  have HT0 := shut T0
  have HY : Shut ((w0.cell? ⟨w.heap.size, 32, none⟩ = some (.slice (some ⟨ab, ao, none⟩) na ca)) ∧ (w0.cell? ⟨w.heap.size, 33, none⟩ = some (.slice (some ⟨pb, po, none⟩) np cp))) := ⟨y0, y1⟩
  clear hs hs2 ra rn rp rs hA hQ RW T0 hR
  generalize btE a m n q s = EE at *
  generalize btB a m n q s = BB at *
  generalize q.i = qi at *
  generalize q.t = qt at *
  generalize s.i = si at *
  generalize s.t = st at *
  generalize m.ad = md at *
  generalize n.ad = nd at *
  generalize (wtL R (.slice (some ⟨ab, ao, none⟩) na ca) (.slice (some ⟨pb, po, none⟩) np cp)).toArray = WA at *
  go_enter Tryd.func15, Tryd.ntmps15
  go_upto_region 1 with fail
  try rw [hw0]
  clear hw0
  by_cases h1 : a ≤ md
  · have g1 : decide (a ≤ md) = true := by simpa using h1
    have k1 : decide ((a : Int) ≤ (md : Int)) = true := by simp; omega
    have k1' : (a : Int) ≤ (md : Int) := by omega
    rw [g1] at HB
    clear h1 g1
    go_quiet (fail)
    go_wp2_with fail
    go_ret
    exact ⟨by rw [HE.out, HB.out]; rfl, HT0.out.drewN _⟩
  · have g1 : decide (a ≤ md) = false := by simpa using h1
    have k1 : decide ((a : Int) ≤ (md : Int)) = false := by simp; omega
    have k1' : ¬ (a : Int) ≤ (md : Int) := by omega
    rw [g1] at HB
    clear h1 g1
    by_cases h3 : nd ≤ a
    · have g3 : decide (nd ≤ a) = true := by simpa using h3
      have k3 : decide ((nd : Int) ≤ (a : Int)) = true := by simp; omega
      have k3' : (nd : Int) ≤ (a : Int) := by omega
      rw [g3] at HB
      clear h3 g3
      go_quiet (fail)
      go_wp2_with fail
      go_ret
      exact ⟨by rw [HE.out, HB.out]; rfl, HT0.out.drewN _⟩
    · have g3 : decide (nd ≤ a) = false := by simpa using h3
      have k3 : decide ((nd : Int) ≤ (a : Int)) = false := by simp; omega
      have k3' : ¬ (nd : Int) ≤ (a : Int) := by omega
      rw [g3] at HB
      clear h3 g3
      cases ht : (st != qt) with
      | true =>
        rw [ht] at HB
        go_quiet (fail)
        go_wp2_with fail
        go_ret
        exact ⟨by rw [HE.out, HB.out]; rfl, HT0.out.drewN _⟩
      | false =>
        rw [ht] at HB
        cases hi : (qi == 9223372036854775807) with
        | true =>
          rw [hi] at HB
          go_quiet (fail)
          go_wp2_with fail
          go_ret
          exact ⟨by rw [HE.out, HB.out]; rfl, HT0.out.drewN _⟩
        | false =>
          rw [hi] at HB
          have hwr : IntKind.i64.wrap (qi + 1) = wrap64 (qi + 1) := by unfold wrap64; exact IntKind.wrap_i64 _
          rw [hwr] at HB
          clear hwr
          cases hw : (si != wrap64 (qi + 1)) with
          | true =>
            rw [hw] at HB
            go_quiet (fail)
            go_wp2_with fail
            go_ret
            exact ⟨by rw [HE.out, HB.out]; rfl, HT0.out.drewN _⟩
          | false =>
            rw [hw] at HB
            go_quiet (fail)
            go_wp2_with fail
            go_ret
            exact ⟨by rw [HE.out, HB.out]; rfl, HT0.out.drewN _⟩
end Go.Proofs.YtieoomdbijpdhaaDoor
