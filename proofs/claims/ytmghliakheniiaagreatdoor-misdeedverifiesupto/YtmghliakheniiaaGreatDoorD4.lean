/- A text that is taken piece by piece (take). -/
import Derived.Test.YtmghliakheniiaaGreatDoorD3
import Derived.Lib.SlBuf
import Derived.Laws.CopyRow
import Derived.Laws.IdiomCopy
namespace Go.Proofs.YtmghliakheniiaaGreatDoor
open Go.RowKit
set_option linter.unusedVariables false

def h0 : List Int := [1779033703, 3144134277, 1013904242, 2773480762, 1359893119, 2600822924, 528734635, 1541459225]
/-- The words behind the first n blocks. -/
def shaP (bs : List UInt8) : Nat → List Int
  | 0 => h0
  | n + 1 => compress (shaP bs n) ((bs.drop (64 * n)).take 64)
/-- The words behind all whole blocks. -/
def shaW (bs : List UInt8) : List Int := shaP bs (bs.length / 64)

theorem shaP_app (t r : List UInt8) (n : Nat) (h : 64 * n ≤ t.length) : shaP (t ++ r) n = shaP t n := by
  induction n with
  | zero => rfl
  | succ n ih =>
    rw [shaP, shaP, ih (by omega), List.drop_append_of_le_length (by omega), List.take_append_of_le_length (by simp; omega)]
theorem shaW_rest (t r : List UInt8) (h : (t ++ r).length / 64 = t.length / 64) : shaW (t ++ r) = shaW t := by
  unfold shaW
  rw [h, shaP_app _ _ _ (by omega)]
theorem shaW_block (t r : List UInt8) (h : t.length % 64 = 0) (hr : r.length = 64) : shaW (t ++ r) = compress (shaW t) r := by
  unfold shaW
  rw [show (t ++ r).length / 64 = t.length / 64 + 1 by simp; omega, shaP, shaP_app _ _ _ (by omega), List.drop_append_of_le_length (by omega)]
  rw [show 64 * (t.length / 64) = t.length by omega, List.drop_length, List.nil_append, List.take_of_length_le (by omega)]

/-- A mixer in a block, from a place on: its words, its rest, how much it has taken. -/
structure MxA (arr : Array Value) (o : Nat) (ws : List Int) (rest : List UInt8) (n : Nat) : Prop where
  words : ∀ j, j < 8 → arr[o + j]? = some (.int .u32 (ws.getD j 0))
  len : rest.length = 64
  rest : ∀ j, j < 64 → arr[o + 8 + j]? = some (bv (rest.getD j 0))
  taken : arr[o + 72]? = some (.int .u64 n)

theorem MxA.size {arr : Array Value} {o : Nat} {ws : List Int} {rest : List UInt8} {n : Nat} (h : MxA arr o ws rest n) : o + 73 ≤ arr.size := by
  have := (Array.getElem?_eq_some_iff.1 h.taken).1
  omega

/-- What stands in the rest behind a text. -/
def tailOf (t : List UInt8) : List UInt8 := t.drop (t.length / 64 * 64)
theorem tailOf_len (t : List UInt8) : (tailOf t).length = t.length % 64 := by simp [tailOf]; omega

/-- A mixer that has taken this text. -/
def Mx (w : World) (p o : Nat) (t : TypeId) (sz : Nat) (text : List UInt8) : Prop :=
  ∃ arr rest, Row w p arr t ∧ arr.size = sz ∧ MxA arr o (shaW text) rest text.length ∧ rest.take (text.length % 64) = tailOf text

/-- A row, some of its places written over. -/
def over (cur : Array Value) (o : Nat) (cs : List Value) : Array Value := (cur.toList.take o ++ cs ++ cur.toList.drop (o + cs.length)).toArray
theorem over_get (cur : Array Value) (o : Nat) (cs : List Value) (hf : o + cs.length ≤ cur.size) (j : Nat) : (over cur o cs)[j]? = if o ≤ j ∧ j < o + cs.length then cs[j - o]? else cur[j]? := by
  unfold over
  simp only [List.getElem?_toArray]
  have hl : (cur.toList.take o).length = o := by simp; omega
  by_cases h1 : j < o
  · rw [if_neg (by omega), List.append_assoc, List.getElem?_append_left (by omega), List.getElem?_take, if_pos h1]
    simp
  · by_cases h2 : j < o + cs.length
    · rw [if_pos (by omega), List.append_assoc, List.getElem?_append_right (by omega), hl, List.getElem?_append_left (by omega)]
    · rw [if_neg (by omega), List.getElem?_append_right (by simp; omega)]
      rw [List.length_append, hl, List.getElem?_drop]
      simp only [Array.getElem?_toList]
      congr 1
      omega
theorem over_size (cur : Array Value) (o : Nat) (cs : List Value) (hf : o + cs.length ≤ cur.size) : (over cur o cs).size = cur.size := by
  simp [over]; omega

theorem size5 : (Tryz.prog.info? 5).map (·.size) = some 1 := by kernel_rfl

/-- copy of bytes into a row. -/
theorem run_copy_over (w : World) (ty : TypeId) (g o dLen dCap : Nat) (v : Value) (bs : List UInt8) (cur : Array Value) (t : TypeId) (hg : Row w g cur t) (hb : Bs w v bs) (hfit : o + min bs.length dLen ≤ cur.size) :
    ∃ w', (Builtin.copy_ #[75, 75] ty #[.slice (some ⟨g, o, none⟩) dLen dCap, v]).run Tryz.prog w = .ok (.int .i64 ((min bs.length dLen : Nat) : Int)) w' ∧ Row w' g (over cur o ((bs.take (min bs.length dLen)).map bv)) t ∧ Turn (fun k => k = g) w w' := by
  obtain ⟨a, cap, rfl⟩ := hb.slice
  by_cases h0 : min bs.length dLen = 0
  · refine ⟨w, ?_, ?_, Turn.refl _ _⟩
    · have := run_copy_none (P := Tryz.prog) w 75 75 ty 5 (some ⟨g, o, none⟩) a dLen dCap bs.length cap Tryz.underlying75 size5 h0
      rw [h0]
      exact this
    · rw [h0]
      simpa [over] using hg
  · rcases hb with ⟨h, rfl⟩ | ⟨a', c', h, h1, h2, h3⟩
    · simp at h0
    · cases h
      have hl : ((bs.take (min bs.length dLen)).map bv).length = min bs.length dLen := by simp
      have := run_copy_row (P := Tryz.prog) w 75 75 ty 5 g o dLen dCap a' bs.length cap cur t ((bs.take (min bs.length dLen)).map bv) Tryz.underlying75 size5 hg hl
        (fun j u hu => by
          rw [List.getElem?_map, List.getElem?_take] at hu
          split at hu
          · cases hq : bs[j]? with
            | none => rw [hq] at hu; cases hu
            | some x => rw [hq] at hu; cases hu; exact h3 j x hq
          · cases hu) (by rw [hl]; exact hfit) (fun u hu => by obtain ⟨x, _, rfl⟩ := List.mem_map.1 hu; rfl)
      refine ⟨_, ?_, setRow_heap w g cur _ t (0, 0) hg, (Turn.refl _ _).setRow g _ (fun _ => rfl)⟩
      rw [this]
      unfold over goInt
      rw [hl]
theorem Bs.from {w : World} {b o n cap : Nat} {bs : List UInt8} (h : Bs w (.slice (some ⟨b, o, none⟩) n cap) bs) (m : Nat) (hm : m ≤ bs.length) (a : Option Addr) (ha : m < cap → a = some ⟨b, o + m, none⟩) : Bs w (.slice a (bs.length - m) (cap - m)) (bs.drop m) := by
  rcases h with ⟨h, rfl⟩ | ⟨a', c', h, h1, h2, h3⟩
  · cases h
  · cases h
    by_cases hc : m < cap
    · rw [ha hc]
      refine Or.inr ⟨⟨b, o + m, none⟩, cap - m, by simp, by simp; omega, by omega, fun j u hu => ?_⟩
      rw [List.getElem?_drop] at hu
      have := h3 (m + j) u hu
      rw [Addr.add_lit] at this ⊢
      rw [← this, Nat.add_assoc]
    · have e1 : bs.length - m = 0 := by omega
      have e2 : cap - m = 0 := by omega
      rw [e1, e2, List.drop_of_length_le (by omega)]
      cases a with
      | none => exact Or.inl ⟨rfl, rfl⟩
      | some a => exact Or.inr ⟨a, 0, rfl, by simp, by simp, fun j u hu => by simp at hu⟩

theorem bs_cut {w : World} {a : Option Addr} {n c : Nat} {bs : List UInt8} (h : Bs w (.slice a n c) bs) (m : Nat) (hm : m ≤ bs.length) : Bs w (.slice a m c) (bs.take m) := by
  rcases h with ⟨h, rfl⟩ | ⟨a', c', h, h1, h2, h3⟩
  · cases h
    simp at hm
    subst hm
    exact Or.inl ⟨rfl, rfl⟩
  · cases h
    refine Or.inr ⟨a', c, by simp; omega, by simp; omega, h2, fun j u hu => h3 j u ?_⟩
    rw [List.getElem?_take] at hu
    split at hu
    · exact hu
    · cases hu

theorem MxA.over {arr : Array Value} {o : Nat} {ws : List Int} {rest : List UInt8} {n : Nat} (h : MxA arr o ws rest n) (k : Nat) (xs : List UInt8) (hk : k + xs.length ≤ 64) : MxA (over arr (o + 8 + k) (xs.map bv)) o ws (rest.take k ++ xs ++ rest.drop (k + xs.length)) n := by
  have hs := h.size
  have hl := h.len
  refine ⟨fun j hj => ?_, ?_, fun j hj => ?_, ?_⟩
  · rw [over_get _ _ _ (by simp; omega), if_neg (by simp; omega)]
    exact h.words j hj
  · simp
    omega
  · rw [over_get _ _ _ (by simp; omega)]
    by_cases hin : k ≤ j ∧ j < k + xs.length
    · rw [if_pos (by simp; omega), show o + 8 + j - (o + 8 + k) = j - k by omega, List.getElem?_map]
      have e : (rest.take k ++ xs ++ rest.drop (k + xs.length)).getD j 0 = xs[j - k] := by
        rw [List.getD_eq_getElem?_getD, List.append_assoc, List.getElem?_append_right (by simp; omega), List.getElem?_append_left (by simp; omega)]
        simp [show min k rest.length = k by omega, show j - k < xs.length by omega]
      rw [e, List.getElem?_eq_getElem (by omega)]
      rfl
    · rw [if_neg (by simp; omega), h.rest j hj]
      congr 2
      rw [List.getD_eq_getElem?_getD, List.getD_eq_getElem?_getD]
      congr 1
      by_cases hj1 : j < k
      · rw [List.append_assoc, List.getElem?_append_left (by simp; omega), List.getElem?_take, if_pos hj1]
      · rw [List.getElem?_append_right (by simp; omega), List.getElem?_drop]
        congr 1
        simp
        omega
  · rw [over_get _ _ _ (by simp; omega), if_neg (by simp; omega)]
    exact h.taken

theorem MxA.count {arr : Array Value} {o : Nat} {ws : List Int} {rest : List UInt8} {n : Nat} (h : MxA arr o ws rest n) (m : Nat) (v : Value) (hv : v = .int .u64 (m : Int)) : MxA (arr.setIfInBounds (o + 72) v) o ws rest m := by
  subst hv
  have hs := h.size
  exact ⟨fun j hj => by rw [Array.getElem?_setIfInBounds_ne (by omega)]; exact h.words j hj, h.len, fun j hj => by rw [Array.getElem?_setIfInBounds_ne (by omega)]; exact h.rest j hj, by rw [Array.getElem?_setIfInBounds_self_of_lt (by omega)]⟩

set_option maxRecDepth 100000 in
set_option maxHeartbeats 4000000 in
theorem take_any (w : World) (p o : Nat) (t : TypeId) (text : List UInt8) (va : Value) (bs : List UInt8) (sz : Nat) (h : Mx w p o t sz text) (hb : Bs w va bs) (hne : bs ≠ [] → ∀ g, va.ownBlock = some g → g ≠ p) (hl : Laid1 w) (hp : p ≠ 2) (hsz : text.length + bs.length ≤ 281474976710656) :
    Calls Tryz.prog 112 #[.pointer (some ⟨p, o, none⟩), va] w fun e w' => e = .returned (.tuple #[]) ∧ Mx w' p o t sz (text ++ bs) ∧ Turn (fun k => k = p) w w' := by
  obtain ⟨arr, rest, hr, hasz, hm, ht⟩ := h
  have hs1 : (arr.setIfInBounds (o + 72) (.int .u64 ((text.length : Int) + (bs.length : Int)))).size = sz := by simpa using hasz
  have c72 := hr.cell _ _ hm.taken
  have f72 := hr.frozen (o + 72)
  obtain ⟨va', vc, hva⟩ := hb.slice
  subst hva
  obtain ⟨N, hN⟩ : ∃ N, N = text.length + bs.length := ⟨_, rfl⟩
  have hm1 := hm.count N (.int .u64 ((text.length : Int) + (bs.length : Int))) (by rw [hN]; simp)
  have hr1 := hr.set (o + 72) (.int .u64 ((text.length : Int) + (bs.length : Int)))
  have T1 : Turn (fun k => k = p) w (w.setCell ⟨p, o + 72, none⟩ (.int .u64 ((text.length : Int) + (bs.length : Int)))) := Turn.setCell (S := fun k => k = p) (p := ⟨p, o + 72, none⟩) (Turn.refl _ w) (fun _ => rfl) _
  have hb1 : Bs (w.setCell ⟨p, o + 72, none⟩ (.int .u64 ((text.length : Int) + (bs.length : Int)))) (.slice va' bs.length vc) bs := by
    by_cases hbn : bs = []
    · subst hbn
      rcases hb with ⟨q, _⟩ | ⟨a', c', q, q1, q2, q3⟩
      · cases q; exact Or.inl ⟨rfl, rfl⟩
      · cases q; exact Or.inr ⟨a', vc, rfl, q1, q2, fun j u hu => by simp at hu⟩
    · exact hb.turn T1 (fun g q r => hne hbn g q r)
  obtain ⟨k, hk⟩ : ∃ k, k = text.length % 64 := ⟨_, rfl⟩
  have hki : Hid ((text.length : Int) % 64 = (k : Int)) := (by omega : (text.length : Int) % 64 = (k : Int))
  rw [← hk] at ht
  have hk64 : k < 64 := by omega
  have hK : Hid (k = text.length % 64) := hk
  have hk0 : k = 0 → text.length % 64 = 0 := fun q => by omega
  have hk1 : k ≠ 0 → (0 : Int) < (text.length : Int) % 64 := fun q => by omega
  have hmod : text.length % 64 = k := hk.symm
  have hki64 : (k : Int) ≤ 64 := by omega
  by_cases h0 : k = 0
  · have h0' : ¬ (0 : Int) < (text.length : Int) % 64 := by omega
    have htm : text.length % 64 = 0 := hk0 h0
    clear hk hmod hk0 hk1
    go_enter Tryz.func112, Tryz.ntmps112
    go_wp2_with fail
    generalize w.setCell ⟨p, o + 72, none⟩ (.int .u64 ((text.length : Int) + (bs.length : Int))) = w1 at *
    go_loopw [1] (fun v wr => ∃ (c rem : List UInt8) (a : Option Addr) (cp : Nat) (arr : Array Value) (rest : List UInt8), v = .slice a rem.length cp ∧ c.length % 64 = 0 ∧ text ++ bs = c ++ rem ∧ Row wr p arr t ∧ arr.size = sz ∧ MxA arr o (shaW c) rest N ∧ Bs wr (.slice a rem.length cp) rem ∧ (rem ≠ [] → ∀ g, (Value.slice a rem.length cp).ownBlock = some g → g ≠ p) ∧ Turn (fun k => k = p) w wr)
        (fun v _ => match v with | .slice _ n _ => n | _ => 0)
    case atStart => exact ⟨text, bs, va', vc, _, rest, rfl, htm, rfl, hr1, hs1, hm1, hb1, hne, T1⟩
    case round =>
      obtain ⟨c, rem, a, cp, arr2, rest2, rfl, hc, hcat, R, hsz2, M, B, hneq, T⟩ := hrel
      have hcl : text.length + bs.length = c.length + rem.length := by have := congrArg List.length hcat; simpa using this
      by_cases hge : 64 ≤ rem.length
      · have hge' : (64 : Int) ≤ (rem.length : Int) := by omega
        obtain ⟨b0, o0, cap0, hv, hcap0, _⟩ := B.at (by omega)
        cases hv
        have hcap0' : 64 ≤ cp := by omega
        have B64 := bs_cut B 64 hge
        have hlW := hl.turn T (fun q => hp q.symm)
        have hmix := mix_any wr p o arr2 t (shaW c) (.slice (some ⟨b0, o0, none⟩) 64 cp) (rem.take 64) R M.words B64 (by simp; omega) hlW hp
        have hrem : rem ≠ [] := by intro q; rw [q] at hge; simp at hge
        have hbp : b0 ≠ p := hneq hrem b0 rfl
        go_wp2_with fail
        refine hmix.mono ?_
        rintro e w5 ⟨rfl, ⟨arr3, R3, hs3, hw3, hk3⟩, T3⟩
        have M3 : MxA arr3 o (shaW (c ++ rem.take 64)) rest2 N := by
          rw [shaW_block c _ hc (by simp; omega)]
          exact ⟨hw3, M.len, fun j hj => by rw [hk3 _ (by omega)]; exact M.rest j hj, by rw [hk3 _ (by omega)]; exact M.taken⟩
        have B5 := B.turn T3 (fun g q r => hbp (by cases q; exact r))
        have B6 := fun a ha => B5.from 64 hge a ha
        clear hmix hw3 hk3
        go_wp2_with fail
        go_roundw
        case rel =>
          refine ⟨c ++ rem.take 64, rem.drop 64, _, cp - 64, arr3, rest2, by first | rw [List.length_drop] | (rw [List.length_drop]; rfl), by simp; omega, by rw [List.append_assoc, List.take_append_drop]; exact hcat, R3, by rw [hs3]; exact hsz2, M3, ?_, fun _ g q => ?_, T.trans T3 (fun _ _ q => q)⟩
          · rw [List.length_drop]
            exact B6 _ (fun q => by first | rw [if_neg (by omega)] | rfl)
          · have e : g = b0 := by
              simp only [Value.ownBlock] at q
              split at q
              · rename_i heq
                split at heq <;> (cases heq; cases q; rfl)
              · cases q
            rw [e]
            exact hbp
        case measure => simp; omega
      · have hge' : ¬ (64 : Int) ≤ (rem.length : Int) := by omega
        have hmin : min rem.length 64 = rem.length := by omega
        obtain ⟨w5, hcopy, R5, T5⟩ := run_copy_over wr 3 p (o + 8) 64 64 (.slice a rem.length cp) rem arr2 t R B (by have := M.size; omega)
        rw [hmin] at hcopy R5
        rw [List.take_length] at R5
        go_wp2_with (at_builtin; refine Lib.wpList_copy_run _ rfl _ _ 75 75 rfl _ _ rfl rfl hcopy ?_)
        go_end0
        refine ⟨rfl, ⟨_, rest2.take 0 ++ rem ++ rest2.drop (0 + rem.length), R5, by rw [over_size _ _ _ (by have := M.size; simp; omega)]; exact hsz2, ?_, ?_⟩, T.trans T5 (fun _ _ q => q)⟩
        · have := M.over 0 rem (by omega)
          try rw [hcat]
          rw [shaW_rest c rem (by simp; omega)]
          rw [show (c ++ rem).length = N by simp; omega]
          exact this
        · try rw [hcat]
          have e1 : (c ++ rem).length % 64 = rem.length := by simp; omega
          have e2 : (c ++ rem).length / 64 * 64 = c.length := by simp; omega
          rw [tailOf, e1, e2]
          simp
  · have h0' : (0 : Int) < (text.length : Int) % 64 := by omega
    clear hk hmod hk0 hk1
    obtain ⟨n, hn⟩ : ∃ n, n = min bs.length (64 - k) := ⟨_, rfl⟩
    have hNm : Hid (n = min bs.length (64 - k)) := hn
    obtain ⟨w2, hcopy, hr2, T2⟩ := run_copy_over _ 3 p (o + 8 + k) (64 - k) (64 - k) (.slice va' bs.length vc) bs _ t hr1 hb1 (by have := hm1.size; omega)
    rw [← hn] at hcopy hr2
    have hm2 := hm1.over k (bs.take n) (by simp; omega)
    have hs2 : (over (arr.setIfInBounds (o + 72) (.int .u64 ((text.length : Int) + (bs.length : Int)))) (o + 8 + k) ((bs.take n).map bv)).size = sz := by rw [over_size _ _ _ (by have := hm1.size; simp at this ⊢; omega)]; exact hs1
    have hrl := hm.len
    clear hr1 hm1 hr hm hn
    have hsl : ∀ w, (Instr.sliceAt 198 (.pointer (some ⟨p, o + 8, none⟩)) (some (.int .i64 ((text.length : Int) % 64))) none none).run Tryz.prog w = .ok (.slice (some ⟨p, o + 8 + k, none⟩) (64 - k) (64 - k)) w := fun w => by
      rw [hki.out, run_sliceAt_array_l (P := Tryz.prog) w 198 ⟨p, o + 8, none⟩ (by kernel_rfl) .i64 (k : Int) (by omega) (by rw [show Tryz.prog.arrayLen 198 = 64 by kernel_rfl]; omega)]
      rw [show (sizeOf (Tryz.prog.elem 198)).run Tryz.prog w = .ok 1 w by kernel_rfl]
      rw [show Tryz.prog.arrayLen 198 = 64 by kernel_rfl]
      simp [slicedAt, Addr.add_lit]
      omega
    by_cases hfull : k + n < 64
    · have hf' : (text.length : Int) % 64 + (n : Int) < 64 := by have := hki.out; omega
      go_enter Tryz.func112, Tryz.ntmps112
      go_wp2_with (at_builtin; refine Lib.wpList_copy_run _ rfl _ _ 75 75 rfl _ _ rfl rfl hcopy ?_)
      have hnm := hNm.out
      have hkk := hK.out
      have hnb : n = bs.length := by omega
      refine bodyPost_ret (v := .tuple #[]) (by simp [results, Tryz.results112]) rfl ⟨rfl, ⟨_, rest.take k ++ bs.take n ++ rest.drop (k + (bs.take n).length), hr2, hs2, ?_, ?_⟩, T1.trans T2 (fun _ _ q => q)⟩
      · have e : (text ++ bs).length = N := by simp; omega
        rw [shaW_rest text bs (by simp; omega), e]
        exact hm2
      · have e1 : (text ++ bs).length % 64 = k + n := by simp; omega
        have e2 : (text ++ bs).length / 64 * 64 = text.length / 64 * 64 := by simp; omega
        rw [tailOf, e1, e2, hnb, List.take_length, List.drop_append_of_le_length (by omega)]
        rw [show text.drop (text.length / 64 * 64) = tailOf text from rfl, ← ht]
        have hl := hrl
        rw [List.take_append_of_le_length (by simp; omega), List.take_of_length_le (by simp; omega)]
    · have hf' : ¬ (text.length : Int) % 64 + (n : Int) < 64 := by have := hki.out; omega
      have hnm := hNm.out
      have hkk := hK.out
      have hn64 : n = 64 - k := by omega
      have hnb : n ≤ bs.length := by omega
      have hnc : (n : Int) ≤ (bs.length : Int) := by omega
      obtain ⟨b0, o0, cap0, hv, hcap0, _⟩ := hb.at (by omega)
      cases hv
      have hbn : bs ≠ [] := by intro q; rw [q] at hnb; simp at hnb; omega
      have hbp : b0 ≠ p := hne hbn b0 rfl
      have T12 := T1.trans T2 (fun _ _ q => q)
      have hl2 := hl.turn T12 (fun q => hp q.symm)
      have hb2 := hb1.turn T2 (fun g q r => hbp (by cases q; exact r))
      have hrest : Bs w2 (.slice (some ⟨p, o + 8, none⟩) 64 64) (rest.take k ++ bs.take n) := by
        refine Or.inr ⟨⟨p, o + 8, none⟩, 64, by simp; omega, by simp; omega, by simp [maxLen], fun j u hu => ?_⟩
        have hj : j < 64 := by have := (List.getElem?_eq_some_iff.1 hu).1; simp at this; omega
        rw [Addr.add_lit]
        rw [hr2.cell (o + 8 + j) _ (hm2.rest j hj)]
        have e : rest.drop (k + (bs.take n).length) = [] := List.drop_of_length_le (by simp; omega)
        rw [e, List.append_nil, List.getD_eq_getElem?_getD, hu]
        rfl
      have hcat0 : (text ++ bs.take n) = text.take (text.length / 64 * 64) ++ (rest.take k ++ bs.take n) := by
        rw [ht, tailOf, ← List.append_assoc, List.take_append_drop]
      have hblk : shaW (text ++ bs.take n) = compress (shaW text) (rest.take k ++ bs.take n) := by
        rw [hcat0, shaW_block _ _ (by simp; omega) (by simp; omega)]
        congr 1
        have := shaW_rest (text.take (text.length / 64 * 64)) (tailOf text) (by simp [tailOf]; omega)
        rw [tailOf, List.take_append_drop] at this
        exact this.symm
      have hmix := mix_any w2 p o _ t (shaW text) (.slice (some ⟨p, o + 8, none⟩) 64 64) (rest.take k ++ bs.take n) hr2 hm2.words hrest (by simp; omega) hl2 hp
      rw [← hblk] at hmix
      have hB := fun W a (hB : Bs W (.slice (some ⟨b0, o0, none⟩) bs.length vc) bs) ha => hB.from n hnb a ha
      have htm : (text ++ bs.take n).length % 64 = 0 := by simp; omega
      have hcat1 : Hid (text ++ bs = (text ++ bs.take n) ++ bs.drop n) := show text ++ bs = (text ++ bs.take n) ++ bs.drop n by rw [List.append_assoc, List.take_append_drop]
      obtain ⟨a1, ha1⟩ : ∃ a1 : Option Addr, a1 = if vc = n then some ⟨b0, o0, none⟩ else some ⟨b0, o0 + n, none⟩ := ⟨_, rfl⟩
      have hsl2 : ∀ w, (Instr.slice 75 (.slice (some ⟨b0, o0, none⟩) bs.length vc) (some (.int .i64 (n : Int))) none none).run Tryz.prog w = .ok (.slice a1 (bs.length - n) (vc - n)) w := fun w => by
        rw [run_slice_l (P := Tryz.prog) w 75 (some ⟨b0, o0, none⟩) bs.length vc (by kernel_rfl) .i64 (n : Int) (by omega) (by omega)]
        rw [show (sizeOf (Tryz.prog.elem 75)).run Tryz.prog w = .ok 1 w by kernel_rfl, ha1]
        simp [sliced, Addr.add_lit]
      have ha2 : n < vc → a1 = some ⟨b0, o0 + n, none⟩ := fun q => by rw [ha1, if_neg (by omega)]
      have ha3 : ∀ g, (Value.slice a1 (bs.length - n) (vc - n)).ownBlock = some g → g ≠ p := fun g q => by
        rw [ha1] at q
        split at q <;> (cases q; exact hbp)
      clear ha1
      clear hNm hnm hkk hn64 hblk hcat0 hrest hK
      go_enter Tryz.func112, Tryz.ntmps112
      go_wp2_with (at_builtin; refine Lib.wpList_copy_run _ rfl _ _ 75 75 rfl _ _ rfl rfl hcopy ?_)
      refine hmix.mono ?_
      rintro e w5 ⟨rfl, ⟨arr3, R3, hs3, hw3, hk3⟩, T3⟩
      have M3 : MxA arr3 o (shaW (text ++ bs.take n)) (rest.take k ++ bs.take n ++ rest.drop (k + (bs.take n).length)) N :=
        ⟨hw3, hm2.len, fun j hj => by rw [hk3 _ (by omega)]; exact hm2.rest j hj, by rw [hk3 _ (by omega)]; exact hm2.taken⟩
      have B5 := hB w5 a1 (hb2.turn T3 (fun g q r => hbp (by cases q; exact r))) ha2
      have T15 := T12.trans T3 (fun _ _ q => q)
      clear hk3 hw3 hm2 hr2 hb2 hB hmix hcopy hl2
      go_wp2_with fail
      go_loopw [1] (fun v wr => ∃ (c rem : List UInt8) (a : Option Addr) (cp : Nat) (arr : Array Value) (rest : List UInt8), v = .slice a rem.length cp ∧ c.length % 64 = 0 ∧ text ++ bs = c ++ rem ∧ Row wr p arr t ∧ arr.size = sz ∧ MxA arr o (shaW c) rest N ∧ Bs wr (.slice a rem.length cp) rem ∧ (rem ≠ [] → ∀ g, (Value.slice a rem.length cp).ownBlock = some g → g ≠ p) ∧ Turn (fun k => k = p) w wr)
          (fun v _ => match v with | .slice _ n _ => n | _ => 0)
      case atStart => exact ⟨text ++ bs.take n, bs.drop n, a1, vc - n, arr3, _, by rw [List.length_drop], htm, hcat1.out, R3, by rw [hs3]; exact hs2, M3, by rw [List.length_drop]; exact B5, fun _ => by rw [List.length_drop]; exact ha3, T15⟩
      case round =>
        obtain ⟨c, rem, a, cp, arr2, rest2, rfl, hc, hcat, R, hsz2, M, B, hneq, T⟩ := hrel
        have hcl : text.length + bs.length = c.length + rem.length := by have := congrArg List.length hcat; simpa using this
        by_cases hge : 64 ≤ rem.length
        · have hge' : (64 : Int) ≤ (rem.length : Int) := by omega
          obtain ⟨b0, o0, cap0, hv, hcap0, _⟩ := B.at (by omega)
          cases hv
          have hcap0' : 64 ≤ cp := by omega
          have B64 := bs_cut B 64 hge
          have hlW := hl.turn T (fun q => hp q.symm)
          have hmix := mix_any wr p o arr2 t (shaW c) (.slice (some ⟨b0, o0, none⟩) 64 cp) (rem.take 64) R M.words B64 (by simp; omega) hlW hp
          have hrem : rem ≠ [] := by intro q; rw [q] at hge; simp at hge
          have hbp : b0 ≠ p := hneq hrem b0 rfl
          go_wp2_with fail
          refine hmix.mono ?_
          rintro e w5 ⟨rfl, ⟨arr3, R3, hs3, hw3, hk3⟩, T3⟩
          have M3 : MxA arr3 o (shaW (c ++ rem.take 64)) rest2 N := by
            rw [shaW_block c _ hc (by simp; omega)]
            exact ⟨hw3, M.len, fun j hj => by rw [hk3 _ (by omega)]; exact M.rest j hj, by rw [hk3 _ (by omega)]; exact M.taken⟩
          have B5 := B.turn T3 (fun g q r => hbp (by cases q; exact r))
          have B6 := fun a ha => B5.from 64 hge a ha
          clear hmix hw3 hk3
          go_wp2_with fail
          go_roundw
          case rel =>
            refine ⟨c ++ rem.take 64, rem.drop 64, _, cp - 64, arr3, rest2, by first | rw [List.length_drop] | (rw [List.length_drop]; rfl), by simp; omega, by rw [List.append_assoc, List.take_append_drop]; exact hcat, R3, by rw [hs3]; exact hsz2, M3, ?_, fun _ g q => ?_, T.trans T3 (fun _ _ q => q)⟩
            · rw [List.length_drop]
              exact B6 _ (fun q => by first | rw [if_neg (by omega)] | rfl)
            · have e : g = b0 := by
                simp only [Value.ownBlock] at q
                split at q
                · rename_i heq
                  split at heq <;> (cases heq; cases q; rfl)
                · cases q
              rw [e]
              exact hbp
          case measure => simp; omega
        · have hge' : ¬ (64 : Int) ≤ (rem.length : Int) := by omega
          have hmin : min rem.length 64 = rem.length := by omega
          obtain ⟨w5, hcopy, R5, T5⟩ := run_copy_over wr 3 p (o + 8) 64 64 (.slice a rem.length cp) rem arr2 t R B (by have := M.size; omega)
          rw [hmin] at hcopy R5
          rw [List.take_length] at R5
          go_wp2_with (at_builtin; refine Lib.wpList_copy_run _ rfl _ _ 75 75 rfl _ _ rfl rfl hcopy ?_)
          go_end0
          refine ⟨rfl, ⟨_, rest2.take 0 ++ rem ++ rest2.drop (0 + rem.length), R5, by rw [over_size _ _ _ (by have := M.size; simp; omega)]; exact hsz2, ?_, ?_⟩, T.trans T5 (fun _ _ q => q)⟩
          · have := M.over 0 rem (by omega)
            try rw [hcat]
            rw [shaW_rest c rem (by simp; omega)]
            rw [show (c ++ rem).length = N by simp; omega]
            exact this
          · try rw [hcat]
            have e1 : (c ++ rem).length % 64 = rem.length := by simp; omega
            have e2 : (c ++ rem).length / 64 * 64 = c.length := by simp; omega
            rw [tailOf, e1, e2]
            simp
end Go.Proofs.YtmghliakheniiaaGreatDoor

