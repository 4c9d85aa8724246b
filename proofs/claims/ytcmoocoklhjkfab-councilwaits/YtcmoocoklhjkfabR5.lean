/- takeOver of the program. -/
import Derived.Test.YtcmoocoklhjkfabR4
import Derived.Test.YtcmoocoklhjkfabC4
import Derived.Test.YtcmoocoklhjkfabD4
namespace Go.Proofs.Ytcmoocoklhjkfab
open Go.RowKit
set_option linter.unusedVariables false

/-- With which priority an address begins. -/
def pri (c : List Mb) (t a : Nat) : Int := if idxE c a < 0 then -((t + t / 8 : Nat) : Int) else (c.getD (idxE c a).toNat mb0).pr
def tkM (c : List Mb) (t : Nat) (m : Mb) : Mb := { m with pr := pri c t m.ad }
theorem idx_spec (c : List Mb) (a : Nat) : idxE c a = -1 ∨ ∃ (i : Nat) (x : Mb), idxE c a = i ∧ c[i]? = some x ∧ x.ad = a := by
  induction c with
  | nil => exact .inl rfl
  | cons m r ih =>
    rw [idxE]
    by_cases h : m.ad = a
    · rw [if_pos h]
      exact .inr ⟨0, m, rfl, rfl, h⟩
    · rw [if_neg h]
      rcases ih with q | ⟨i, x, q, hx, hxa⟩
      · rw [q]
        exact .inl rfl
      · rw [q, if_neg (by omega)]
        exact .inr ⟨i + 1, x, by omega, by simpa using hx, hxa⟩
theorem pri_none (c : List Mb) (t a : Nat) (h : idxE c a = -1) : pri c t a = -((t + t / 8 : Nat) : Int) := by rw [pri, h, if_pos (by omega)]
theorem pri_some (c : List Mb) (t a i : Nat) (x : Mb) (h : idxE c a = i) (hx : c[i]? = some x) : pri c t a = x.pr := by
  rw [pri, h, if_neg (by omega)]
  simp [List.getD, hx]
theorem set_set (l : List Mb) (k : Nat) (a b : Mb) : (l.set k a).set k b = l.set k b := by simp

set_option maxRecDepth 100000 in
set_option maxHeartbeats 1000000 in
theorem take33 (w : World) (g cap t : Nat) (l c : List Mb) (ac : Option Addr) (capc : Nat) (R : Rw w g cap l) (C : MsAt w ac capc c) (hac : ∀ x, ac = some x → x.block ≠ g) (ht : t ≤ 1152921504606846975) :
    Calls Try.prog 33 #[.slice (some ⟨g, 0, none⟩) l.length cap, .agg #[.slice ac c.length capc], .int .u64 t] w fun e w' => e = .returned (.tuple #[]) ∧ Rw w' g cap (l.map (tkM c t)) ∧ Turn (fun b => b = g) w w' := by
  have hle : l.length ≤ 9223372036854775807 := by have := R.le; have := R.most; simp only [maxLen] at this; omega
  have hcle : c.length ≤ 9223372036854775807 := by have := C.le; have := C.cap; simp only [maxLen] at this; omega
  have hgw := R.lt
  have T0 : Turn no w (w.alloc (.cells #[.slice ac c.length capc] 26)) := (Turn.refl no w).alloc _
  have B0 := Bx.new w (.slice ac c.length capc) 26
  have R0 := R.turn_no T0
  have C0 := C.turn_no T0
  clear R C
  obtain ⟨n, hn⟩ : ∃ n, Hid (l.length = n) := ⟨_, rfl⟩
  have hn' : l.length = n := hn.out
  rw [hn'] at hle ⊢
  obtain ⟨nc, hnc⟩ : ∃ nc, Hid (c.length = nc) := ⟨_, rfl⟩
  have hnc' : c.length = nc := hnc.out
  rw [hnc'] at hcle T0 B0 R0 C0 ⊢
  clear hn' hnc'
  have ht' : (t : Int) ≤ 1152921504606846975 := by omega
  go_enter Try.func33, Try.ntmps33
  go_wp2_with fail
  generalize w.alloc (.cells #[.slice ac nc capc] 26) = w0 at *
  go_loopw [11] (fun x wr => ∃ k : Nat, k ≤ n ∧ x = .int .i64 k ∧ Rw wr g cap (mapTo (tkM c t) l k) ∧ Turn (fun b => b = g) w0 wr) (fun x _ => n - (intOf x).toNat)
  case atStart => exact ⟨0, by omega, rfl, by rw [mapTo_zero]; exact R0, Turn.refl _ _⟩
  case round =>
    clear R0
    obtain ⟨k, hk, rfl, R, T⟩ := hrel
    by_cases hlt : k < n
    · obtain ⟨m, hm⟩ : ∃ m, l[k]? = some m := ⟨l[k]'(by rw [hn.out]; exact hlt), List.getElem?_eq_getElem _⟩
      have hlt' : (k : Int) < (n : Int) := by omega
      have hgr := R.lt
      obtain ⟨c0, c1, c2⟩ := R.cells k m (mapTo_at _ l k m hm)
      have f2 := R.frozen (k * 3 + 2)
      obtain ⟨v1, hv1⟩ : ∃ v1 : Int, Hid (-((t + t / 8 : Nat) : Int) = v1) := ⟨_, rfl⟩
      have hv1' : v1 = -((t : Int) + (t : Int) / 8) := by rw [← hv1.out]; omega
      have R1 := R.set k m (mapTo_at _ l k m hm) v1 (by omega)
      have T1 := T.setCell (p := ⟨g, k * 3 + 2, none⟩) (fun _ => rfl) (.int .i64 v1)
      have hkl : k < (mapTo (tkM c t) l k).length := by rw [mapTo_len, hn.out]; exact hlt
      have hms := mapTo_succ (tkM c t) l k m hm
      rw [show tkM c t m = { m with pr := pri c t m.ad } from rfl] at hms
      have TA := (Turn.refl no (wr.setCell ⟨g, k * 3 + 2, none⟩ (.int .i64 v1))).alloc (.cells #[.int .u64 m.ad, .int .u64 m.pw, .int .i64 m.pr] 55)
      have R2 := R1.turn_no TA
      have T2 := T1.then_no TA
      have C2 := C0.turn T2 (fun x hx => hac x hx)
      have B2 := B0.turn T2 (fun q => by omega)
      have b2 := B2.c
      have hix := index20 _ (.slice ac nc capc) c ⟨ac, capc, by rw [show c.length = nc from hnc.out], C2⟩ m.ad
      have hspec := idx_spec c m.ad
      have hpn := pri_none c t m.ad
      have hps := pri_some c t m.ad
      rw [show -((t + t / 8 : Nat) : Int) = v1 from hv1.out] at hpn
      clear hm R R1 T1
      have hv2 : -((t : Int) + (t : Int) / 8) = v1 := hv1'.symm
      clear hv1'
      have hv1 : True := trivial
      rcases hspec with hI | ⟨i, x, hI, hx, _⟩
      · rw [hpn hI] at hms
        rw [hms] at R2
        rw [hI] at hix
        clear hI hpn hps hms C0 C2
        go_wp2_with fail
        refine hix.mono ?_
        rintro e w3 ⟨rfl, T3⟩
        have R3 := R2.turn_no T3
        have TT := T2.then_no T3
        clear hix R2 T2 T3 hv2 b2
        go_wp2_with fail
        go_roundw
        case rel => exact ⟨k + 1, by omega, by go_num, R3, TT⟩
        case measure => simp [intOf]; omega
      · have hps := hps i x hI hx
        rw [hI] at hix
        have hil : i < nc := by rw [← hnc.out]; exact (List.getElem?_eq_some_iff.1 hx).1
        have hil' : (i : Int) < (nc : Int) := by omega
        have hok := C0.ok x (List.mem_of_getElem? hx)
        clear hI hpn C0
        go_wp2_with fail
        refine hix.mono ?_
        rintro e w3 ⟨rfl, T3⟩
        have R3 := R2.turn_no T3
        have TT := T2.then_no T3
        have C3 := C2.turn_no T3
        obtain ⟨bc, offc, eac, x0, x1, x2⟩ := C3.cells i x hx
        subst eac
        have b3 := (B2.turn_no T3).c
        have hm1 : ((mapTo (tkM c t) l k).set k { m with pr := v1 })[k]? = some { m with pr := v1 } := by
          rw [List.getElem?_set_self hkl]
        obtain ⟨d0, d1, d2⟩ := R3.cells k _ hm1
        have f3 := R3.frozen (k * 3 + 2)
        have R4 := R3.set k _ hm1 x.pr ⟨hok.2.2.1, hok.2.2.2⟩
        rw [set_set] at R4
        rw [hps] at hms
        have R5 : Rw (w3.setCell ⟨g, k * 3 + 2, none⟩ (.int .i64 x.pr)) g cap (mapTo (tkM c t) l (k + 1)) := by rw [← hms]; exact R4
        have T5 := TT.setCell (p := ⟨g, k * 3 + 2, none⟩) (fun _ => rfl) (.int .i64 x.pr)
        have hg3 := R3.lt
        clear hix R2 T2 T3 hv2 b2 hms hm1 R3 R4 hps C2 C3 hx hok B2
        go_wp2_with fail
        go_roundw
        case rel => exact ⟨k + 1, by omega, by go_num, R5, T5⟩
        case measure => simp [intOf]; omega
    · have hkn : k = n := by omega
      subst hkn
      have hlt' : ¬ (k : Int) < (k : Int) := by omega
      rw [mapTo_all _ l k hn.out] at R
      go_wp2_with fail
      go_end0
      exact ⟨rfl, R, T0.of_no.trans T (fun _ _ q => q)⟩
end Go.Proofs.Ytcmoocoklhjkfab
