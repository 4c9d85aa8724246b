/- Who is named: the closure, IndexFunc, ContainsFunc. -/
import Derived.Test.YtmfphlagpifkaaaG0
namespace Go.Proofs.Ytmfphlagpifkaaa
open Go.RowKit
set_option linter.unusedVariables false

theorem wpList_loadG {P : Program} {ops : Array Oper} {rest : List Oper} {o : Oper} {a : Act} {w : World} {Q : Exit → Act → World → Prop} (hgd : Region.wanted o (yielded ops a.tmps) = true) (ty : TypeId) (x : Operand) (ho : o.op = .load ty x)
    (b j : Nat) (hx : a.eval x = .pointer (some ⟨b, j, none⟩)) (cs : List Value) (d : TypeDesc) (hc : w.rangeAt b j cs)
    (hu : P.underlying ty = some d) (hd : d.isRow = true) (hi : (P.info? ty).map (·.size) = some cs.length)
    (h : wpList P ops Q rest (a.put o.dst (.agg cs.toArray)) w) : wpList P ops Q (o :: rest) a w :=
  wpList_load_midG hgd ty x ho b j hx cs d hc hu hd hi h
theorem size43 : (Try.prog.info? 43).map (·.size) = some 108 := by kernel_rfl
theorem clos11 (w : World) (D : Array Value) (g a b : Nat) (hD : D[0]? = some (.int .u64 b)) (hc : w.cell? ⟨g, 0, none⟩ = some (.int .u64 a)) : Calls Try.prog 11 #[.agg D, .pointer (some ⟨g, 0, none⟩)] w fun e w' => e = .returned (.bool ((b : Int) == (a : Int))) ∧ Turn no w w' := by
  have T0 : Turn no w (w.alloc (.cells D 43)) := (Turn.refl no w).alloc _
  have c0 := (Row.new w D 43).cell 0 _ hD
  have c1 := T0.keep hc (fun q => q)
  have HT := shut T0
  generalize hw1 : w.alloc (.cells D 43) = w1 at *
  clear hc T0
  go_enter Try.func11, Try.ntmps11
  go_upto_region 1 with fail
  try rw [hw1]
  clear hw1
  go_wp2_with fail
  go_ret
  exact ⟨rfl, HT.out⟩
/-- Is somebody named? -/
def named (l : List Gu) (a : Nat) : Bool := l.any fun g => (g.ad : Int) == (a : Int)
theorem GsAt.range {w : World} {a : Option Addr} {cap : Nat} {l : List Gu} (h : GsAt w a cap l) (j : Nat) (m : Gu) (hj : l[j]? = some m) : ∃ b off, a = some ⟨b, off, none⟩ ∧ w.rangeAt b (off + j * 108) m.cs := h.cells j m hj
set_option maxRecDepth 100000 in
set_option maxHeartbeats 2000000 in
theorem index15 (w : World) (v : Value) (l : List Gu) (h : Gs w v l) (g a : Nat) (hc : w.cell? ⟨g, 0, none⟩ = some (.int .u64 a)) : Calls Try.prog 15 #[v, .func (.func 11) #[] #[.pointer (some ⟨g, 0, none⟩)]] w fun e w' => ∃ r : Int, e = .returned (.int .i64 r) ∧ decide (0 ≤ r) = named l a ∧ Turn no w w' := by
  obtain ⟨ad, cap, rfl, h⟩ := h
  have hcells := h.cells
  have hok := h.ok
  have hle : l.length ≤ 9223372036854775807 := by have := h.le; have := h.cap; simp only [maxLen] at this; omega
  clear h
  obtain ⟨n, hn⟩ : ∃ n, Hid (l.length = n) := ⟨_, rfl⟩
  have hn' : l.length = n := hn.out
  rw [hn'] at hle ⊢
  clear hn'
  have HC := shut hcells
  have HO := shut hok
  have HCC := shut hc
  clear hcells hok hc
  go_enter Try.func15, Try.ntmps15
  go_wp2_with fail
  go_loopw [8, 5] (fun c c5 wr => ∃ k : Nat, k ≤ n ∧ c = .int .i64 k ∧ Shut (∀ j m, j < k → l[j]? = some m → ((m.ad : Int) == (a : Int)) = false) ∧ Shut (Turn no w wr)) (fun c _ _ => n - (intOf c).toNat)
  case atStart => exact ⟨0, by omega, rfl, fun j m q => by omega, Turn.refl _ _⟩
  case round =>
    obtain ⟨k, hk, rfl, HN, HT⟩ := hrel
    by_cases hlt : k < n
    · obtain ⟨m, hm⟩ : ∃ m, l[k]? = some m := ⟨l[k]'(by rw [hn.out]; exact hlt), List.getElem?_eq_getElem _⟩
      obtain ⟨b, off, rfl, c0⟩ := HC.out k m hm
      have hmo := HO.out m (List.mem_of_getElem? hm)
      have HR := shut (fun i v hi => HT.out.keep (c0 i v hi) (fun q => q) : wr.rangeAt b (off + k * 108) m.cs)
      have hlt' : (k : Int) < (n : Int) := by omega
      have hsz : (Try.prog.info? 43).map (·.size) = some m.cs.length := by rw [Gu.len hmo]; exact size43
      have hD : m.cs.toArray[0]? = some (.int .u64 m.ad) := by simp [Gu.cs]
      have C := clos11 wr m.cs.toArray g a m.ad hD (HT.out.keep HCC.out (fun q => q))
      have HM := shut hm
      clear c0 hm hmo hD
      generalize m.cs = D at *
      generalize hbb : ((m.ad : Int) == (a : Int)) = bb at *
      have HB := shut hbb
      clear hbb
      cases bb with
      | true =>
        go_wp2_with (first | (guard_target =~ wpList _ _ _ ({ dst := _, op := Op.load 43 _, .. } :: _) _ _; refine wpList_load_mid rfl 43 (.tmp 14) rfl b (off + k * 108) rfl D _ HR.out Try.underlying43 rfl hsz ?_) | (go_at_call 11; refine C.mono ?_; clear C; rintro e w5 ⟨rfl, t5⟩))
        go_ret
        refine ⟨_, rfl, ?_, HT.out.then_no t5⟩
        have : named l a = true := List.any_eq_true.2 ⟨m, List.mem_of_getElem? HM.out, HB.out⟩
        rw [this]
        simp
      | false =>
        go_wp2_with (first | (guard_target =~ wpList _ _ _ ({ dst := _, op := Op.load 43 _, .. } :: _) _ _; refine wpList_load_mid rfl 43 (.tmp 14) rfl b (off + k * 108) rfl D _ HR.out Try.underlying43 rfl hsz ?_) | (go_at_call 11; refine C.mono ?_; clear C; rintro e w5 ⟨rfl, t5⟩))
        go_roundw
        case rel =>
          refine ⟨k + 1, by omega, by go_num, fun j x hj hx => ?_, HT.out.then_no t5⟩
          by_cases e : j = k
          · subst e
            rw [HM.out] at hx
            cases hx
            exact HB.out
          · exact HN.out j x (by omega) hx
        case measure => simp [intOf]; omega
    · have hkn : k = n := by omega
      subst hkn
      have hlt' : ¬ (k : Int) < (k : Int) := by omega
      go_wp2_with fail
      go_ret
      refine ⟨_, rfl, ?_, HT.out⟩
      have : named l a = false := by
        rw [Bool.eq_false_iff]
        intro q
        obtain ⟨x, hx, hq⟩ := List.any_eq_true.1 q
        obtain ⟨j, hj⟩ := List.getElem?_of_mem hx
        have h1 := HN.out j x (by have := (List.getElem?_eq_some_iff.1 hj).1; have := hn.out; omega) hj
        rw [h1] at hq
        cases hq
      rw [this]
      decide
theorem contains10 (w : World) (v : Value) (l : List Gu) (h : Gs w v l) (g a : Nat) (hc : w.cell? ⟨g, 0, none⟩ = some (.int .u64 a)) : Calls Try.prog 10 #[v, .func (.func 11) #[] #[.pointer (some ⟨g, 0, none⟩)]] w fun e w' => e = .returned (.bool (named l a)) ∧ Turn no w w' := by
  have C := index15 w v l h g a hc
  go_enter Try.func10, Try.ntmps10
  go_wp2_with (go_at_call 15; refine C.mono ?_; clear C; rintro e w5 ⟨r, rfl, hr, t5⟩)
  go_ret
  exact ⟨by rw [← hr]; rfl, t5⟩
end Go.Proofs.Ytmfphlagpifkaaa
