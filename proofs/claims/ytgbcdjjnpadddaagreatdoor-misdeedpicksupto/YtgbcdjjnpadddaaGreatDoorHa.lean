/- Texts in one. -/
import Derived.Test.YtgbcdjjnpadddaaGreatDoorDp
import Derived.Test.YtgbcdjjnpadddaaGreatDoorDq
import Derived.Deep.MidRow
/- take once more: the cell ahead of the mixer stays. -/
namespace Go.Proofs.YtgbcdjjnpadddaaGreatDoor
open Go.RowKit
set_option linter.unusedVariables false

/-- A mixer behind one cell. -/
def MxH (w : World) (p o : Nat) (t : TypeId) (sz : Nat) (hd : Value) (text : List UInt8) : Prop :=
  ∃ arr rest, Row w p arr t ∧ (arr.size = sz ∧ arr[0]? = some hd) ∧ MxA arr o (shaW text) rest text.length ∧ rest.take (text.length % 64) = tailOf text

set_option maxRecDepth 100000 in
set_option maxHeartbeats 4000000 in
theorem take_hs (w : World) (p o : Nat) (t : TypeId) (text : List UInt8) (va : Value) (bs : List UInt8) (sz : Nat) (hd : Value) (ho : 1 ≤ o) (h : MxH w p o t sz hd text) (hb : Bs w va bs) (hne : bs ≠ [] → ∀ g, va.ownBlock = some g → g ≠ p) (hl : Laid1 w) (hp : p ≠ 2) (hsz : text.length + bs.length ≤ 281474976710656) :
    Calls Tryz.prog 147 #[.pointer (some ⟨p, o, none⟩), va] w fun e w' => e = .returned (.tuple #[]) ∧ MxH w' p o t sz hd (text ++ bs) ∧ Turn (fun k => k = p) w w' := by
  obtain ⟨arr, rest, hr, hasz, hm, ht⟩ := h
  have hs1 : (arr.setIfInBounds (o + 72) (.int .u64 ((text.length : Int) + (bs.length : Int)))).size = sz ∧ (arr.setIfInBounds (o + 72) (.int .u64 ((text.length : Int) + (bs.length : Int))))[0]? = some hd := ⟨by simpa using hasz.1, by rw [Array.getElem?_setIfInBounds_ne (by omega)]; exact hasz.2⟩
  have c72 := hr.cell _ _ hm.taken
  have f72 := hr.frozen (o + 72)
  obtain ⟨va', vc, hva⟩ := hb.slice
  subst hva
  obtain ⟨N, hN⟩ : ∃ N, N = text.length + bs.length := ⟨_, rfl⟩
  have hm1 := hm.count N (.int .u64 ((text.length : Int) + (bs.length : Int))) (by rw [hN]; simp)
  have hr1 := hr.set (o + 72) (.int .u64 ((text.length : Int) + (bs.length : Int)))
  have T1 : Turn (fun k => k = p) w (w.setCell ⟨p, o + 72, none⟩ (.int .u64 ((text.length : Int) + (bs.length : Int)))) := Turn.setCell (S := fun k => k = p) (p := ⟨p, o + 72, none⟩) (Turn.refl _ w) (fun _ => rfl) _
  have hb1 : Bs (w.setCell ⟨p, o + 72, none⟩ (.int .u64 ((text.length : Int) + (bs.length : Int)))) (.slice va' bs.length vc) bs := by
    by_cases hbn : bs = []
    · subst hbn
      rcases hb with ⟨q, _⟩ | ⟨a', c', q, q1, q2, q3⟩
      · cases q; exact Or.inl ⟨rfl, rfl⟩
      · cases q; exact Or.inr ⟨a', vc, rfl, q1, q2, fun j u hu => by simp at hu⟩
    · exact hb.turn T1 (fun g q r => hne hbn g q r)
  obtain ⟨k, hk⟩ : ∃ k, k = text.length % 64 := ⟨_, rfl⟩
  have hki : Hid ((text.length : Int) % 64 = (k : Int)) := (by omega : (text.length : Int) % 64 = (k : Int))
  rw [← hk] at ht
  have hk64 : k < 64 := by omega
  have hK : Hid (k = text.length % 64) := hk
  have hk0 : k = 0 → text.length % 64 = 0 := fun q => by omega
  have hk1 : k ≠ 0 → (0 : Int) < (text.length : Int) % 64 := fun q => by omega
  have hmod : text.length % 64 = k := hk.symm
  have hki64 : (k : Int) ≤ 64 := by omega
  by_cases h0 : k = 0
  · have h0' : ¬ (0 : Int) < (text.length : Int) % 64 := by omega
    have htm : text.length % 64 = 0 := hk0 h0
    clear hk hmod hk0 hk1
    go_enter Tryz.func147, Tryz.ntmps147
    go_wp2_with fail
    generalize w.setCell ⟨p, o + 72, none⟩ (.int .u64 ((text.length : Int) + (bs.length : Int))) = w1 at *
    go_loopw [1] (fun v wr => ∃ (c rem : List UInt8) (a : Option Addr) (cp : Nat) (arr : Array Value) (rest : List UInt8), v = .slice a rem.length cp ∧ c.length % 64 = 0 ∧ text ++ bs = c ++ rem ∧ Row wr p arr t ∧ (arr.size = sz ∧ arr[0]? = some hd) ∧ MxA arr o (shaW c) rest N ∧ Bs wr (.slice a rem.length cp) rem ∧ (rem ≠ [] → ∀ g, (Value.slice a rem.length cp).ownBlock = some g → g ≠ p) ∧ Turn (fun k => k = p) w wr)
        (fun v _ => match v with | .slice _ n _ => n | _ => 0)
    case atStart => exact ⟨text, bs, va', vc, _, rest, rfl, htm, rfl, hr1, hs1, hm1, hb1, hne, T1⟩
    case round =>
      obtain ⟨c, rem, a, cp, arr2, rest2, rfl, hc, hcat, R, hsz2, M, B, hneq, T⟩ := hrel
      have hcl : text.length + bs.length = c.length + rem.length := by have := congrArg List.length hcat; simpa using this
      by_cases hge : 64 ≤ rem.length
      · have hge' : (64 : Int) ≤ (rem.length : Int) := by omega
        obtain ⟨b0, o0, cap0, hv, hcap0, _⟩ := B.at (by omega)
        cases hv
        have hcap0' : 64 ≤ cp := by omega
        have B64 := bs_cut B 64 hge
        have hlW := hl.turn T (fun q => hp q.symm)
        have hmix := mix_any wr p o arr2 t (shaW c) (.slice (some ⟨b0, o0, none⟩) 64 cp) (rem.take 64) R M.words B64 (by simp; omega) hlW hp
        have hrem : rem ≠ [] := by intro q; rw [q] at hge; simp at hge
        have hbp : b0 ≠ p := hneq hrem b0 rfl
        go_wp2_with fail
        refine hmix.mono ?_
        rintro e w5 ⟨rfl, ⟨arr3, R3, hs3, hw3, hk3⟩, T3⟩
        have M3 : MxA arr3 o (shaW (c ++ rem.take 64)) rest2 N := by
          rw [shaW_block c _ hc (by simp; omega)]
          exact ⟨hw3, M.len, fun j hj => by rw [hk3 _ (by omega)]; exact M.rest j hj, by rw [hk3 _ (by omega)]; exact M.taken⟩
        have B5 := B.turn T3 (fun g q r => hbp (by cases q; exact r))
        have B6 := fun a ha => B5.from 64 hge a ha
        have hk0 := hk3 0 (by omega)
        clear hmix hw3 hk3
        go_wp2_with fail
        go_roundw
        case rel =>
          refine ⟨c ++ rem.take 64, rem.drop 64, _, cp - 64, arr3, rest2, by first | rw [List.length_drop] | (rw [List.length_drop]; rfl), by simp; omega, by rw [List.append_assoc, List.take_append_drop]; exact hcat, R3, ⟨by rw [hs3]; exact hsz2.1, by rw [hk0]; exact hsz2.2⟩, M3, ?_, fun _ g q => ?_, T.trans T3 (fun _ _ q => q)⟩
          · rw [List.length_drop]
            exact B6 _ (fun q => by first | rw [if_neg (by omega)] | rfl)
          · have e : g = b0 := by
              simp only [Value.ownBlock] at q
              split at q
              · rename_i heq
                split at heq <;> (cases heq; cases q; rfl)
              · cases q
            rw [e]
            exact hbp
        case measure => simp; omega
      · have hge' : ¬ (64 : Int) ≤ (rem.length : Int) := by omega
        have hmin : min rem.length 64 = rem.length := by omega
        obtain ⟨w5, hcopy, R5, T5⟩ := run_copy_over wr 3 p (o + 8) 64 64 (.slice a rem.length cp) rem arr2 t R B (by have := M.size; omega)
        rw [hmin] at hcopy R5
        rw [List.take_length] at R5
        go_wp2_with (at_builtin; refine Lib.wpList_copy_run _ rfl _ _ 124 124 rfl _ _ rfl rfl hcopy ?_)
        go_end0
        refine ⟨rfl, ⟨_, rest2.take 0 ++ rem ++ rest2.drop (0 + rem.length), R5, ⟨by rw [over_size _ _ _ (by have := M.size; simp; omega)]; exact hsz2.1, by rw [over_get _ _ _ (by have := M.size; simp; omega), if_neg (by omega)]; exact hsz2.2⟩, ?_, ?_⟩, T.trans T5 (fun _ _ q => q)⟩
        · have := M.over 0 rem (by omega)
          try rw [hcat]
          rw [shaW_rest c rem (by simp; omega)]
          rw [show (c ++ rem).length = N by simp; omega]
          exact this
        · try rw [hcat]
          have e1 : (c ++ rem).length % 64 = rem.length := by simp; omega
          have e2 : (c ++ rem).length / 64 * 64 = c.length := by simp; omega
          rw [tailOf, e1, e2]
          simp
  · have h0' : (0 : Int) < (text.length : Int) % 64 := by omega
    clear hk hmod hk0 hk1
    obtain ⟨n, hn⟩ : ∃ n, n = min bs.length (64 - k) := ⟨_, rfl⟩
    have hNm : Hid (n = min bs.length (64 - k)) := hn
    obtain ⟨w2, hcopy, hr2, T2⟩ := run_copy_over _ 3 p (o + 8 + k) (64 - k) (64 - k) (.slice va' bs.length vc) bs _ t hr1 hb1 (by have := hm1.size; omega)
    rw [← hn] at hcopy hr2
    have hm2 := hm1.over k (bs.take n) (by simp; omega)
    have hs2 : (over (arr.setIfInBounds (o + 72) (.int .u64 ((text.length : Int) + (bs.length : Int)))) (o + 8 + k) ((bs.take n).map bv)).size = sz ∧ (over (arr.setIfInBounds (o + 72) (.int .u64 ((text.length : Int) + (bs.length : Int)))) (o + 8 + k) ((bs.take n).map bv))[0]? = some hd := ⟨by rw [over_size _ _ _ (by have := hm1.size; simp at this ⊢; omega)]; exact hs1.1, by rw [over_get _ _ _ (by have := hm1.size; simp at this ⊢; omega), if_neg (by omega)]; exact hs1.2⟩
    have hrl := hm.len
    clear hr1 hm1 hr hm hn
    have hsl : ∀ w, (Instr.sliceAt 239 (.pointer (some ⟨p, o + 8, none⟩)) (some (.int .i64 ((text.length : Int) % 64))) none none).run Tryz.prog w = .ok (.slice (some ⟨p, o + 8 + k, none⟩) (64 - k) (64 - k)) w := fun w => by
      rw [hki.out, run_sliceAt_array_l (P := Tryz.prog) w 239 ⟨p, o + 8, none⟩ (by kernel_rfl) .i64 (k : Int) (by omega) (by rw [show Tryz.prog.arrayLen 239 = 64 by kernel_rfl]; omega)]
      rw [show (sizeOf (Tryz.prog.elem 239)).run Tryz.prog w = .ok 1 w by kernel_rfl]
      rw [show Tryz.prog.arrayLen 239 = 64 by kernel_rfl]
      simp [slicedAt, Addr.add_lit]
      omega
    by_cases hfull : k + n < 64
    · have hf' : (text.length : Int) % 64 + (n : Int) < 64 := by have := hki.out; omega
      go_enter Tryz.func147, Tryz.ntmps147
      go_wp2_with (at_builtin; refine Lib.wpList_copy_run _ rfl _ _ 124 124 rfl _ _ rfl rfl hcopy ?_)
      have hnm := hNm.out
      have hkk := hK.out
      have hnb : n = bs.length := by omega
      refine bodyPost_ret (v := .tuple #[]) (by simp [results, Tryz.results147]) rfl ⟨rfl, ⟨_, rest.take k ++ bs.take n ++ rest.drop (k + (bs.take n).length), hr2, hs2, ?_, ?_⟩, T1.trans T2 (fun _ _ q => q)⟩
      · have e : (text ++ bs).length = N := by simp; omega
        rw [shaW_rest text bs (by simp; omega), e]
        exact hm2
      · have e1 : (text ++ bs).length % 64 = k + n := by simp; omega
        have e2 : (text ++ bs).length / 64 * 64 = text.length / 64 * 64 := by simp; omega
        rw [tailOf, e1, e2, hnb, List.take_length, List.drop_append_of_le_length (by omega)]
        rw [show text.drop (text.length / 64 * 64) = tailOf text from rfl, ← ht]
        have hl := hrl
        rw [List.take_append_of_le_length (by simp; omega), List.take_of_length_le (by simp; omega)]
    · have hf' : ¬ (text.length : Int) % 64 + (n : Int) < 64 := by have := hki.out; omega
      have hnm := hNm.out
      have hkk := hK.out
      have hn64 : n = 64 - k := by omega
      have hnb : n ≤ bs.length := by omega
      have hnc : (n : Int) ≤ (bs.length : Int) := by omega
      obtain ⟨b0, o0, cap0, hv, hcap0, _⟩ := hb.at (by omega)
      cases hv
      have hbn : bs ≠ [] := by intro q; rw [q] at hnb; simp at hnb; omega
      have hbp : b0 ≠ p := hne hbn b0 rfl
      have T12 := T1.trans T2 (fun _ _ q => q)
      have hl2 := hl.turn T12 (fun q => hp q.symm)
      have hb2 := hb1.turn T2 (fun g q r => hbp (by cases q; exact r))
      have hrest : Bs w2 (.slice (some ⟨p, o + 8, none⟩) 64 64) (rest.take k ++ bs.take n) := by
        refine Or.inr ⟨⟨p, o + 8, none⟩, 64, by simp; omega, by simp; omega, by simp [maxLen], fun j u hu => ?_⟩
        have hj : j < 64 := by have := (List.getElem?_eq_some_iff.1 hu).1; simp at this; omega
        rw [Addr.add_lit]
        rw [hr2.cell (o + 8 + j) _ (hm2.rest j hj)]
        have e : rest.drop (k + (bs.take n).length) = [] := List.drop_of_length_le (by simp; omega)
        rw [e, List.append_nil, List.getD_eq_getElem?_getD, hu]
        rfl
      have hcat0 : (text ++ bs.take n) = text.take (text.length / 64 * 64) ++ (rest.take k ++ bs.take n) := by
        rw [ht, tailOf, ← List.append_assoc, List.take_append_drop]
      have hblk : shaW (text ++ bs.take n) = compress (shaW text) (rest.take k ++ bs.take n) := by
        rw [hcat0, shaW_block _ _ (by simp; omega) (by simp; omega)]
        congr 1
        have := shaW_rest (text.take (text.length / 64 * 64)) (tailOf text) (by simp [tailOf]; omega)
        rw [tailOf, List.take_append_drop] at this
        exact this.symm
      have hmix := mix_any w2 p o _ t (shaW text) (.slice (some ⟨p, o + 8, none⟩) 64 64) (rest.take k ++ bs.take n) hr2 hm2.words hrest (by simp; omega) hl2 hp
      rw [← hblk] at hmix
      have hB := fun W a (hB : Bs W (.slice (some ⟨b0, o0, none⟩) bs.length vc) bs) ha => hB.from n hnb a ha
      have htm : (text ++ bs.take n).length % 64 = 0 := by simp; omega
      have hcat1 : Hid (text ++ bs = (text ++ bs.take n) ++ bs.drop n) := show text ++ bs = (text ++ bs.take n) ++ bs.drop n by rw [List.append_assoc, List.take_append_drop]
      obtain ⟨a1, ha1⟩ : ∃ a1 : Option Addr, a1 = if vc = n then some ⟨b0, o0, none⟩ else some ⟨b0, o0 + n, none⟩ := ⟨_, rfl⟩
      have hsl2 : ∀ w, (Instr.slice 124 (.slice (some ⟨b0, o0, none⟩) bs.length vc) (some (.int .i64 (n : Int))) none none).run Tryz.prog w = .ok (.slice a1 (bs.length - n) (vc - n)) w := fun w => by
        rw [run_slice_l (P := Tryz.prog) w 124 (some ⟨b0, o0, none⟩) bs.length vc (by kernel_rfl) .i64 (n : Int) (by omega) (by omega)]
        rw [show (sizeOf (Tryz.prog.elem 124)).run Tryz.prog w = .ok 1 w by kernel_rfl, ha1]
        simp [sliced, Addr.add_lit]
      have ha2 : n < vc → a1 = some ⟨b0, o0 + n, none⟩ := fun q => by rw [ha1, if_neg (by omega)]
      have ha3 : ∀ g, (Value.slice a1 (bs.length - n) (vc - n)).ownBlock = some g → g ≠ p := fun g q => by
        rw [ha1] at q
        split at q <;> (cases q; exact hbp)
      clear ha1
      clear hNm hnm hkk hn64 hblk hcat0 hrest hK
      go_enter Tryz.func147, Tryz.ntmps147
      go_wp2_with (at_builtin; refine Lib.wpList_copy_run _ rfl _ _ 124 124 rfl _ _ rfl rfl hcopy ?_)
      refine hmix.mono ?_
      rintro e w5 ⟨rfl, ⟨arr3, R3, hs3, hw3, hk3⟩, T3⟩
      have M3 : MxA arr3 o (shaW (text ++ bs.take n)) (rest.take k ++ bs.take n ++ rest.drop (k + (bs.take n).length)) N :=
        ⟨hw3, hm2.len, fun j hj => by rw [hk3 _ (by omega)]; exact hm2.rest j hj, by rw [hk3 _ (by omega)]; exact hm2.taken⟩
      have B5 := hB w5 a1 (hb2.turn T3 (fun g q r => hbp (by cases q; exact r))) ha2
      have T15 := T12.trans T3 (fun _ _ q => q)
      have hk0 := hk3 0 (by omega)
      clear hk3 hw3 hm2 hr2 hb2 hB hmix hcopy hl2
      go_wp2_with fail
      go_loopw [1] (fun v wr => ∃ (c rem : List UInt8) (a : Option Addr) (cp : Nat) (arr : Array Value) (rest : List UInt8), v = .slice a rem.length cp ∧ c.length % 64 = 0 ∧ text ++ bs = c ++ rem ∧ Row wr p arr t ∧ (arr.size = sz ∧ arr[0]? = some hd) ∧ MxA arr o (shaW c) rest N ∧ Bs wr (.slice a rem.length cp) rem ∧ (rem ≠ [] → ∀ g, (Value.slice a rem.length cp).ownBlock = some g → g ≠ p) ∧ Turn (fun k => k = p) w wr)
          (fun v _ => match v with | .slice _ n _ => n | _ => 0)
      case atStart => exact ⟨text ++ bs.take n, bs.drop n, a1, vc - n, arr3, _, by rw [List.length_drop], htm, hcat1.out, R3, ⟨by rw [hs3]; exact hs2.1, by rw [hk0]; exact hs2.2⟩, M3, by rw [List.length_drop]; exact B5, fun _ => by rw [List.length_drop]; exact ha3, T15⟩
      case round =>
        obtain ⟨c, rem, a, cp, arr2, rest2, rfl, hc, hcat, R, hsz2, M, B, hneq, T⟩ := hrel
        have hcl : text.length + bs.length = c.length + rem.length := by have := congrArg List.length hcat; simpa using this
        by_cases hge : 64 ≤ rem.length
        · have hge' : (64 : Int) ≤ (rem.length : Int) := by omega
          obtain ⟨b0, o0, cap0, hv, hcap0, _⟩ := B.at (by omega)
          cases hv
          have hcap0' : 64 ≤ cp := by omega
          have B64 := bs_cut B 64 hge
          have hlW := hl.turn T (fun q => hp q.symm)
          have hmix := mix_any wr p o arr2 t (shaW c) (.slice (some ⟨b0, o0, none⟩) 64 cp) (rem.take 64) R M.words B64 (by simp; omega) hlW hp
          have hrem : rem ≠ [] := by intro q; rw [q] at hge; simp at hge
          have hbp : b0 ≠ p := hneq hrem b0 rfl
          go_wp2_with fail
          refine hmix.mono ?_
          rintro e w5 ⟨rfl, ⟨arr3, R3, hs3, hw3, hk3⟩, T3⟩
          have M3 : MxA arr3 o (shaW (c ++ rem.take 64)) rest2 N := by
            rw [shaW_block c _ hc (by simp; omega)]
            exact ⟨hw3, M.len, fun j hj => by rw [hk3 _ (by omega)]; exact M.rest j hj, by rw [hk3 _ (by omega)]; exact M.taken⟩
          have B5 := B.turn T3 (fun g q r => hbp (by cases q; exact r))
          have B6 := fun a ha => B5.from 64 hge a ha
          have hk0 := hk3 0 (by omega)
          clear hmix hw3 hk3
          go_wp2_with fail
          go_roundw
          case rel =>
            refine ⟨c ++ rem.take 64, rem.drop 64, _, cp - 64, arr3, rest2, by first | rw [List.length_drop] | (rw [List.length_drop]; rfl), by simp; omega, by rw [List.append_assoc, List.take_append_drop]; exact hcat, R3, ⟨by rw [hs3]; exact hsz2.1, by rw [hk0]; exact hsz2.2⟩, M3, ?_, fun _ g q => ?_, T.trans T3 (fun _ _ q => q)⟩
            · rw [List.length_drop]
              exact B6 _ (fun q => by first | rw [if_neg (by omega)] | rfl)
            · have e : g = b0 := by
                simp only [Value.ownBlock] at q
                split at q
                · rename_i heq
                  split at heq <;> (cases heq; cases q; rfl)
                · cases q
              rw [e]
              exact hbp
          case measure => simp; omega
        · have hge' : ¬ (64 : Int) ≤ (rem.length : Int) := by omega
          have hmin : min rem.length 64 = rem.length := by omega
          obtain ⟨w5, hcopy, R5, T5⟩ := run_copy_over wr 3 p (o + 8) 64 64 (.slice a rem.length cp) rem arr2 t R B (by have := M.size; omega)
          rw [hmin] at hcopy R5
          rw [List.take_length] at R5
          go_wp2_with (at_builtin; refine Lib.wpList_copy_run _ rfl _ _ 124 124 rfl _ _ rfl rfl hcopy ?_)
          go_end0
          refine ⟨rfl, ⟨_, rest2.take 0 ++ rem ++ rest2.drop (0 + rem.length), R5, ⟨by rw [over_size _ _ _ (by have := M.size; simp; omega)]; exact hsz2.1, by rw [over_get _ _ _ (by have := M.size; simp; omega), if_neg (by omega)]; exact hsz2.2⟩, ?_, ?_⟩, T.trans T5 (fun _ _ q => q)⟩
          · have := M.over 0 rem (by omega)
            try rw [hcat]
            rw [shaW_rest c rem (by simp; omega)]
            rw [show (c ++ rem).length = N by simp; omega]
            exact this
          · try rw [hcat]
            have e1 : (c ++ rem).length % 64 = rem.length := by simp; omega
            have e2 : (c ++ rem).length / 64 * 64 = c.length := by simp; omega
            rw [tailOf, e1, e2]
            simp
end Go.Proofs.YtgbcdjjnpadddaaGreatDoor



/- Hashers that were made: goingOn, New. -/
namespace Go.Proofs.YtgbcdjjnpadddaaGreatDoor
open Go.RowKit
set_option linter.unusedVariables false

theorem foldl_lay : ∀ (l : List Value) (k : Nat) (z : Array Value) (j : Nat), 1 + k + l.length ≤ z.size →
    ((l.zipIdx k).foldl (fun (cs : Array Value) (x : Value × Nat) => cs.setIfInBounds (1 + x.snd) x.fst) z)[j]? = if 1 + k ≤ j ∧ j < 1 + k + l.length then l[j - (1 + k)]? else z[j]?
  | [], k, z, j, _ => by simp; omega
  | v :: l, k, z, j, h => by
    simp only [List.zipIdx_cons, List.foldl_cons]
    rw [foldl_lay l (k + 1) _ j (by simp at h ⊢; omega)]
    by_cases h1 : 1 + (k + 1) ≤ j ∧ j < 1 + (k + 1) + l.length
    · rw [if_pos h1, if_pos (by simp; omega)]
      obtain ⟨i, rfl⟩ : ∃ i, j = i + (1 + k) + 1 := ⟨j - (1 + k) - 1, by omega⟩
      rw [show i + (1 + k) + 1 - (1 + (k + 1)) = i by omega, show i + (1 + k) + 1 - (1 + k) = i + 1 by omega, List.getElem?_cons_succ]
    · rw [if_neg h1]
      by_cases h2 : j = 1 + k
      · subst h2
        rw [Array.getElem?_setIfInBounds_self_of_lt (by simp at h; omega), if_pos (by simp)]
        simp
      · rw [Array.getElem?_setIfInBounds_ne (by omega), if_neg (by simp; omega)]
theorem foldl_lay_size : ∀ (l : List Value) (k : Nat) (z : Array Value), ((l.zipIdx k).foldl (fun (cs : Array Value) (x : Value × Nat) => cs.setIfInBounds (1 + x.snd) x.fst) z).size = z.size
  | [], k, z => rfl
  | v :: l, k, z => by
    simp only [List.zipIdx_cons, List.foldl_cons]
    rw [foldl_lay_size l (k + 1)]
    simp

theorem z31 : Tryz.zeroCells244.size = 74 := by kernel_rfl
theorem z31_0 : Tryz.zeroCells244[0]? = some (.pointer none) := by kernel_rfl
theorem lay31 (arr : Array Value) (hs : arr.size = 73) : Array.foldl (fun (cs : Array Value) (x : Value × Nat) => cs.setIfInBounds (1 + x.snd) x.fst) Tryz.zeroCells244 arr.zipIdx 0 73 = (arr.toList.zipIdx 0).foldl (fun (cs : Array Value) (x : Value × Nat) => cs.setIfInBounds (1 + x.snd) x.fst) Tryz.zeroCells244 := by
  have : arr.zipIdx.size = 73 := by simpa using hs
  rw [← this, ← Array.foldl_toList]
  simp

/-- A Hasher that was made and has taken this text. -/
def Hs (w : World) (p : Nat) (text : List UInt8) : Prop := MxH w p 1 244 74 (.pointer (some ⟨p, 0, none⟩)) text

set_option maxRecDepth 100000 in
set_option maxHeartbeats 4000000 in
theorem goingOn_any (w : World) (arr : Array Value) (rest text : List UInt8) (hs : arr.size = 73) (hm : MxA arr 0 (shaW text) rest text.length) (hr : rest.take (text.length % 64) = tailOf text) :
    Calls Tryz.prog 144 #[.agg arr] w fun e w' => e = .returned (.pointer (some ⟨w.heap.size + 1, 0, none⟩)) ∧ Hs w' (w.heap.size + 1) text ∧ Turn no w w' := by
  have hi : (Tryz.prog.info? 241).map (·.size) = some arr.size := by rw [hs]; exact size29
  have R := Row.new w arr 241
  obtain ⟨NB, hfb⟩ : ∃ NB, Array.foldl (fun (cs : Array Value) (x : Value × Nat) => cs.setIfInBounds (1 + x.snd) x.fst) Tryz.zeroCells244 arr.zipIdx 0 73 = NB := ⟨_, rfl⟩
  have hnb := hfb
  rw [lay31 arr hs] at hnb
  have hsz : NB.size = 74 := by rw [← hnb, foldl_lay_size]; exact z31
  have hal : arr.toList.length = 73 := by simpa using hs
  have hget : ∀ j, NB[j]? = if 1 ≤ j ∧ j < 74 then arr[j - 1]? else Tryz.zeroCells244[j]? := fun j => by
    rw [← hnb, foldl_lay _ _ _ _ (by rw [hal, z31]; omega)]
    rw [hal]
    simp only [Nat.add_zero]
    by_cases hc : 1 ≤ j ∧ j < 74
    · rw [if_pos (by omega), if_pos hc]; simp
    · rw [if_neg (by omega), if_neg hc]
  have hn0 : NB[0]? = some (.pointer none) := by rw [hget, if_neg (by omega)]; exact z31_0
  have hH : ∀ W, Row W (w.heap.size + 1) (NB.setIfInBounds 0 (.pointer (some ⟨w.heap.size + 1, 0, none⟩))) 244 → Hs W (w.heap.size + 1) text := fun W h => by
    have hg : ∀ j, 1 ≤ j → j < 74 → (NB.setIfInBounds 0 (.pointer (some ⟨w.heap.size + 1, 0, none⟩)))[j]? = arr[j - 1]? := fun j h1 h2 => by
      rw [Array.getElem?_setIfInBounds_ne (by omega), hget, if_pos ⟨h1, h2⟩]
    refine ⟨_, rest, h, ⟨by simpa using hsz, by rw [Array.getElem?_setIfInBounds_self_of_lt (by omega)]⟩, ⟨fun j hj => ?_, hm.len, fun j hj => ?_, ?_⟩, hr⟩
    · rw [hg _ (by omega) (by omega), show 1 + j - 1 = 0 + j by omega]; exact hm.words j hj
    · rw [hg _ (by omega) (by omega), show 1 + 8 + j - 1 = 0 + 8 + j by omega]; exact hm.rest j hj
    · rw [hg _ (by omega) (by omega)]; exact hm.taken
  have hN0 : NB[0]'(by omega) = .pointer none := by rw [Array.getElem?_eq_getElem (by omega)] at hn0; exact Option.some.inj hn0
  clear hget hnb hm hn0 hal
  go_enter Tryz.func144, Tryz.ntmps144
  go_wp2_with (refine wpList_load_row rfl 241 (.tmp 1) rfl w.heap.size rfl 241 arr (0, 0) _ R Tryz.underlying241 rfl hi ?_)
  go_ret
  refine ⟨rfl, hH _ (Row.newAt _ _ _ _ (by simp)), ((Turn.refl no w).alloc _).alloc _⟩

set_option maxRecDepth 100000 in
set_option maxHeartbeats 4000000 in
theorem new_any (w : World) : Calls Tryz.prog 114 #[] w fun e w' => ∃ p, e = .returned (.pointer (some ⟨p, 0, none⟩)) ∧ w.heap.size ≤ p ∧ Hs w' p [] ∧ Turn no w w' := by
  have hg := fun W => goingOn_any W mx0 (List.replicate 64 0) [] mx0_size (by simpa [shaW, shaP] using mx0_is) (by simp [tailOf])
  go_enter Tryz.func114, Tryz.ntmps114
  go_wp2_with fail
  refine (newMixer_any _).mono ?_
  rintro e w1 ⟨rfl, t1⟩
  go_wp2_with fail
  refine (hg _).mono ?_
  rintro e w2 ⟨rfl, h2, t2⟩
  go_wp2_with fail
  go_ret
  exact ⟨_, rfl, by have := t1.size; omega, h2, t1.then_no t2⟩

theorem eql23_same (a : Addr) (w : World) : (binOp .eql 209 (.pointer (some a)) (.pointer (some a))).run Tryz.prog w = .ok (.bool true) w := by
  obtain ⟨j, hj⟩ := Option.isSome_iff_exists.1 (show (Tryz.prog.info? 244).isSome = true by kernel_rfl)
  exact run_eql_ptr_same w a Tryz.underlying209 hj
theorem Hs.self {w : World} {p : Nat} {text : List UInt8} (h : Hs w p text) : w.cell? ⟨p, 0, none⟩ = some (.pointer (some ⟨p, 0, none⟩)) := by
  obtain ⟨arr, rest, hr, ⟨_, h0⟩, _⟩ := h
  exact hr.cell 0 _ h0
theorem Hs.turn {S : Nat → Prop} {w w' : World} {p : Nat} {text : List UInt8} (h : Hs w p text) (t : Turn S w w') (hn : ¬ S p) : Hs w' p text := by
  obtain ⟨arr, rest, hr, r⟩ := h
  exact ⟨arr, rest, hr.turn t hn, r⟩

set_option maxRecDepth 100000 in
set_option maxHeartbeats 1000000 in
theorem made_made (w : World) (p : Nat) (text : List UInt8) (h : Hs w p text) : Calls Tryz.prog 146 #[.pointer (some ⟨p, 0, none⟩)] w fun e w' => e = .returned (.bool true) ∧ w' = w := by
  have h0 := h.self
  have e1 := fun a w => eql23_same a w
  go_enter Tryz.func146, Tryz.ntmps146
  go_wp2_with fail
  go_ret
  exact ⟨rfl, rfl⟩

set_option maxRecDepth 100000 in
set_option maxHeartbeats 1000000 in
theorem write_made (w : World) (p : Nat) (text : List UInt8) (va : Value) (bs : List UInt8) (h : Hs w p text) (hb : Bs w va bs) (hne : bs ≠ [] → ∀ g, va.ownBlock = some g → g ≠ p) (hl : Laid1 w) (hp : p ≠ 2) (hsz : text.length + bs.length ≤ 281474976710656) :
    Calls Tryz.prog 115 #[.pointer (some ⟨p, 0, none⟩), va] w fun e w' => e = .returned (.tuple #[]) ∧ Hs w' p (text ++ bs) ∧ Turn (fun k => k = p) w w' := by
  have hm := made_made w p text h
  have ht := take_hs w p 1 244 text va bs 74 (.pointer (some ⟨p, 0, none⟩)) (by omega) h hb hne hl hp hsz
  obtain ⟨a, c, rfl⟩ := hb.slice
  go_enter Tryz.func115, Tryz.ntmps115
  go_wp2_with fail
  refine hm.mono ?_
  rintro e w1 ⟨rfl, rfl⟩
  go_wp2_with fail
  refine ht.mono ?_
  rintro e w2 ⟨rfl, h2, t2⟩
  go_wp2_with fail
  go_end0
  exact ⟨rfl, h2, t2⟩
end Go.Proofs.YtgbcdjjnpadddaaGreatDoor



/- Hashers that were made: Sum, Copy. -/
namespace Go.Proofs.YtgbcdjjnpadddaaGreatDoor
open Go.RowKit
set_option linter.unusedVariables false

theorem Hs.mixer {w : World} {p : Nat} {text : List UInt8} (h : Hs w p text) : ∃ (cs : List Value) (rest : List UInt8), w.rangeAt p 1 cs ∧ cs.length = 73 ∧ MxA cs.toArray 0 (shaW text) rest text.length ∧ rest.take (text.length % 64) = tailOf text := by
  obtain ⟨arr, rest, hr, ⟨hs, _⟩, hm, ht⟩ := h
  have hg : ∀ j, (arr.toList.drop 1).toArray[j]? = arr[1 + j]? := fun j => by simp [Nat.add_comm]
  refine ⟨arr.toList.drop 1, rest, fun j v hv => hr.cell (1 + j) v (by rw [List.getElem?_drop] at hv; simpa using hv), by simp [hs], ⟨fun j hj => ?_, hm.len, fun j hj => ?_, ?_⟩, ht⟩
  · rw [hg, show 1 + (0 + j) = 1 + j by omega]; exact hm.words j hj
  · rw [hg, show 1 + (0 + 8 + j) = 1 + 8 + j by omega]; exact hm.rest j hj
  · rw [hg, show 1 + (0 + 72) = 1 + 72 by omega]; exact hm.taken

set_option maxRecDepth 100000 in
set_option maxHeartbeats 4000000 in
theorem sum_made (w : World) (p : Nat) (text : List UInt8) (h : Hs w p text) (hl : Laid1 w) (h2 : 3 ≤ w.heap.size) (hsz : text.length + 72 ≤ 281474976710656) :
    Calls Tryz.prog 116 #[.pointer (some ⟨p, 0, none⟩)] w fun e w' => e = .returned (.agg (hv text)) ∧ Turn no w w' := by
  have hpl : p < w.heap.size := by obtain ⟨arr, rest, hr, _⟩ := h; exact hr.lt
  obtain ⟨z, hz, hzs⟩ : ∃ z : Array Value, z = #[.int .u8 0, .int .u8 0, .int .u8 0, .int .u8 0, .int .u8 0, .int .u8 0, .int .u8 0, .int .u8 0, .int .u8 0, .int .u8 0, .int .u8 0, .int .u8 0, .int .u8 0, .int .u8 0, .int .u8 0, .int .u8 0, .int .u8 0, .int .u8 0, .int .u8 0, .int .u8 0, .int .u8 0, .int .u8 0, .int .u8 0, .int .u8 0, .int .u8 0, .int .u8 0, .int .u8 0, .int .u8 0, .int .u8 0, .int .u8 0, .int .u8 0, .int .u8 0] ∧ z.size = 32 := ⟨_, rfl, rfl⟩
  have T0 : Turn no w (w.alloc (.cells z 26)) := (Turn.refl no w).alloc _
  have hm := made_made _ p text (h.turn T0 (fun q => q))
  have RZ := Row.new w z 26
  obtain ⟨cs, rest, hc, hcl, hA, ht⟩ := (h.turn T0 (fun q => q)).mixer
  have hi29 : (Tryz.prog.info? 241).map (·.size) = some cs.length := by rw [hcl]; exact size29
  have hsum := sum_any (w.alloc (.cells z 26)) cs.toArray text rest (by simpa using hcl) hA ht (hl.turn T0 (fun q => q)) (by have := T0.size; omega) hsz
  have hh : ((hashOf text).map bv).toArray = hv text := rfl
  rw [hh] at hsum
  have h1 := hv_one text
  have hs := hv_size text
  have hi := hv_info text
  clear hh
  generalize hv text = H at *
  clear hA ht h
  go_enter Tryz.func116, Tryz.ntmps116
  go_wp2_with fail
  rw [← hz]
  clear hz
  generalize w.alloc (.cells z 26) = w0 at *
  refine hm.mono ?_
  rintro e w1 ⟨rfl, rfl⟩
  go_wp2_with (refine wpList_load_mid rfl 241 (.tmp 9) rfl p 1 rfl cs _ hc Tryz.underlying241 rfl hi29 ?_)
  refine hsum.mono ?_
  rintro e w2 ⟨rfl, t2⟩
  have RZ2 := RZ.turn t2 (fun q => q)
  have T2 := T0.then_no t2
  go_wp2_with (refine wpList_store_row rfl 26 (.tmp 2) (.tmp 11) rfl w.heap.size H rfl rfl 26 z RZ2 hi (by omega) h1 ?_)
  refine bodyPost_ret (v := .agg H) ?_ rfl ⟨rfl, T2.setRow _ _ (fun q => by omega)⟩
  exact results_cell_row (P := Tryz.prog) Tryz.results116 _ _ w.heap.size 26 H (0, 0) _ rfl (setRow_heap _ _ _ _ _ _ RZ2) Tryz.underlying26 rfl hi

end Go.Proofs.YtgbcdjjnpadddaaGreatDoor


