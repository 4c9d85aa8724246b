/- Texts in one. -/
import Derived.Test.YtaoigopjfelgpaaGreatDoorBaseN
import Derived.Test.YtaoigopjfelgpaaGreatDoorRows
import Derived.Deep.CutRange
import Derived.Laws.Bits64
import Derived.Deep.RegionHeld3
import Derived.Test.YtaoigopjfelgpaaGreatDoorCm
import Derived.Laws.ResultCell
/- A list of accounts in memory; soundAccounts. -/
namespace Go.Proofs.YtaoigopjfelgpaaGreatDoor
open Go.RowKit
set_option linter.unusedVariables false

/-- An account. -/
structure Ac where
  ad : Nat
  bal : Nat
  bond : Nat
  nonce : Nat
  jail : Bool
def Ac.ok (m : Ac) : Prop := m.ad < 18446744073709551616 ∧ m.bal < 18446744073709551616 ∧ m.bond < 18446744073709551616 ∧ m.nonce < 18446744073709551616
/-- What is wrong with accounts behind an address. -/
def scanA : Nat → List Ac → Int
  | _, [] => 0
  | p, m :: r => if m.ad = 0 then 85 else if m.ad ≤ p then 42 else if 1152921504606846975 < m.bal ∨ 1152921504606846975 < m.bond then 87 else scanA m.ad r
theorem scanA_at {l : List Ac} {k : Nat} {m : Ac} (h : l[k]? = some m) (p : Nat) : scanA p (l.drop k) = if m.ad = 0 then 85 else if m.ad ≤ p then 42 else if 1152921504606846975 < m.bal ∨ 1152921504606846975 < m.bond then 87 else scanA m.ad (l.drop (k + 1)) := by
  obtain ⟨hk, rfl⟩ := List.getElem?_eq_some_iff.1 h
  rw [List.drop_eq_getElem_cons hk]
  rfl
/-- A list of accounts, wherever it lies. -/
structure AsAt (w : World) (a : Option Addr) (cap : Nat) (l : List Ac) : Prop where
  le : l.length ≤ cap
  cap : cap ≤ maxLen
  ok : ∀ m ∈ l, m.ok
  cells : ∀ j m, l[j]? = some m → ∃ b off, a = some ⟨b, off, none⟩ ∧ w.cell? ⟨b, off + j * 5, none⟩ = some (.int .u64 m.ad) ∧ w.cell? ⟨b, off + j * 5 + 1, none⟩ = some (.int .u64 m.bal) ∧ w.cell? ⟨b, off + j * 5 + 2, none⟩ = some (.int .u64 m.bond) ∧ w.cell? ⟨b, off + j * 5 + 3, none⟩ = some (.int .u64 m.nonce) ∧ w.cell? ⟨b, off + j * 5 + 4, none⟩ = some (.bool m.jail)
def As (w : World) (v : Value) (l : List Ac) : Prop := ∃ a cap, v = .slice a l.length cap ∧ AsAt w a cap l
theorem AsAt.turn {S : Nat → Prop} {w w' : World} {a : Option Addr} {cap : Nat} {l : List Ac} (h : AsAt w a cap l) (t : Turn S w w') (hn : ∀ x, a = some x → ¬ S x.block) : AsAt w' a cap l :=
  ⟨h.le, h.cap, h.ok, fun j m hj => by
    obtain ⟨b, off, e, c0, c1, c2, c3, c4⟩ := h.cells j m hj
    have := hn _ e
    exact ⟨b, off, e, t.keep c0 this, t.keep c1 this, t.keep c2 this, t.keep c3 this, t.keep c4 this⟩⟩
theorem AsAt.turn_no {w w' : World} {a : Option Addr} {cap : Nat} {l : List Ac} (h : AsAt w a cap l) (t : Turn no w w') : AsAt w' a cap l := h.turn t (fun _ _ q => q)
theorem As.turn_no {w w' : World} {v : Value} {l : List Ac} (h : As w v l) (t : Turn no w w') : As w' v l := by
  obtain ⟨a, cap, e, h⟩ := h
  exact ⟨a, cap, e, h.turn_no t⟩

set_option maxRecDepth 100000 in
set_option maxHeartbeats 2000000 in
theorem soundA27 (w : World) (v : Value) (l : List Ac) (h : As w v l) : Calls Tryz.prog 55 #[v] w fun e w' => e = .returned (.int .i64 (scanA 0 l)) ∧ Turn no w w' := by
  obtain ⟨a, cap, rfl, h⟩ := h
  have hcells := h.cells
  have hok := h.ok
  have hle : l.length ≤ 9223372036854775807 := by have := h.le; have := h.cap; simp only [maxLen] at this; omega
  clear h
  obtain ⟨n, hn⟩ : ∃ n, Hid (l.length = n) := ⟨_, rfl⟩
  have hn' : l.length = n := hn.out
  rw [hn'] at hle ⊢
  clear hn'
  go_enter Tryz.func55, Tryz.ntmps55
  go_wp2_with fail
  go_loopw [3, 8] (fun x c wr => ∃ k p : Nat, k ≤ n ∧ c = .int .i64 k ∧ x = .int .u64 p ∧ scanA 0 l = scanA p (l.drop k) ∧ Turn no w wr) (fun _ c _ => n - (intOf c).toNat)
  case atStart => exact ⟨0, 0, by omega, rfl, rfl, rfl, Turn.refl _ _⟩
  case round =>
    obtain ⟨k, p, hk, rfl, rfl, hsc, T⟩ := hrel
    by_cases hlt : k < n
    · obtain ⟨m, hm⟩ : ∃ m, l[k]? = some m := ⟨l[k]'(by rw [hn.out]; exact hlt), List.getElem?_eq_getElem _⟩
      obtain ⟨b, off, rfl, c0, c1, c2, c3, c4⟩ := hcells k m hm
      have c0 := T.keep c0 (fun q => q)
      have c1 := T.keep c1 (fun q => q)
      have c2 := T.keep c2 (fun q => q)
      have c3 := T.keep c3 (fun q => q)
      have c4 := T.keep c4 (fun q => q)
      have hlt' : (k : Int) < (n : Int) := by omega
      have hst := scanA_at hm p
      rw [← hsc] at hst
      clear hcells hok hsc hm
      have TA : ∀ o : Obj, Turn no w (wr.alloc o) := fun o => T.alloc o
      by_cases a1 : m.ad = 0
      · rw [if_pos a1] at hst
        have HW : Hid (scanA 0 l = _) := hst
        have a1' : ((m.ad : Int) == 0) = true := by simp; omega
        clear hst
        go_wp2_with fail
        go_ret
        exact ⟨by rw [HW.out]; rfl, TA _⟩
      rw [if_neg a1] at hst
      have a1' : ((m.ad : Int) == 0) = false := by simp; omega
      by_cases a2 : m.ad ≤ p
      · rw [if_pos a2] at hst
        have HW : Hid (scanA 0 l = _) := hst
        have a2' : (m.ad : Int) ≤ (p : Int) := by omega
        clear hst
        go_wp2_with fail
        go_ret
        exact ⟨by rw [HW.out]; rfl, TA _⟩
      rw [if_neg a2] at hst
      have a2' : ¬ (m.ad : Int) ≤ (p : Int) := by omega
      by_cases a3 : 1152921504606846975 < m.bal
      · rw [if_pos (.inl a3)] at hst
        have HW : Hid (scanA 0 l = _) := hst
        have a3' : (1152921504606846975 : Int) < (m.bal : Int) := by omega
        clear hst
        go_wp2_with fail
        go_ret
        exact ⟨by rw [HW.out]; rfl, TA _⟩
      have a3' : ¬ (1152921504606846975 : Int) < (m.bal : Int) := by omega
      by_cases a4 : 1152921504606846975 < m.bond
      · rw [if_pos (.inr a4)] at hst
        have HW : Hid (scanA 0 l = _) := hst
        have a4' : (1152921504606846975 : Int) < (m.bond : Int) := by omega
        clear hst
        go_wp2_with fail
        go_ret
        exact ⟨by rw [HW.out]; rfl, TA _⟩
      rw [if_neg (by omega)] at hst
      have a4' : ¬ (1152921504606846975 : Int) < (m.bond : Int) := by omega
      have HW : Hid (scanA 0 l = _) := hst
      clear hst
      go_wp2_with fail
      go_roundw
      case rel => exact ⟨k + 1, m.ad, by omega, by go_num, rfl, HW.out, TA _⟩
      case measure => simp [intOf]; omega
    · have hlt' : ¬ (k : Int) < (n : Int) := by omega
      have he : scanA 0 l = 0 := by
        rw [hsc, List.drop_of_length_le (by have := hn.out; omega)]
        rfl
      have HW : Hid (scanA 0 l = _) := he
      clear he hsc hcells
      go_wp2_with fail
      go_ret
      exact ⟨by rw [HW.out]; rfl, T⟩
end Go.Proofs.YtaoigopjfelgpaaGreatDoor


/- append to a slice of no room; copied. -/
namespace Go.Proofs.YtaoigopjfelgpaaGreatDoor
open Go.RowKit
set_option linter.unusedVariables false

section
variable {P : Program}
/-- An append to what has no room takes new memory, wherever that lay. -/
theorem run_append_cut {t tx e : TypeId} {z : Value} {size bytes : Nat} (ht : P.underlying t = some (.slice e)) (hinf : (P.info? e).map (fun i => (i.zero, i.size, i.bytes)) = some (some z, size, bytes)) (hz : z.cells.size = size) (hsz : 0 < size)
    (ty : TypeId) (w : World) (base : Addr) (x : Value) (m : Nat) (news : List Value) (hs : Src P size tx x m news w) (h0 : 0 < m) (hb : m * bytes ≤ 140737488355328) (hm : m ≤ maxLen) :
    ∃ v' w', (Builtin.append_ #[t, tx] ty #[.slice (some base) 0 0, x]).run P w = .ok v' w' ∧ OwnN w' e size v' m news ∧ (∀ g, v'.ownBlock = some g → w.heap.size ≤ g) ∧ Turn no w w' := by
  obtain ⟨i, hi, hz0, hz1, hz2⟩ := info_parts hinf
  have hnl : news.length = m * size := hs.newsLen
  have h63 : m ≤ 9223372036854775807 := by simp only [maxLen] at hm; omega
  have hlt : 0 < 0 + m := by omega
  have hr := run_append_grow_src (P := P) w t tx ty e i z ht hi hz0 (some base) 0 0 [] (by rw [hz1]; exact run_firstCells_some w.drew size 0 base 0 0 [] (by simp) (fun j u hu => by simp at hu)) x m news (by rw [hz1]; exact hs) hlt (by omega) (growslice_fits hlt (by rw [hz2, Nat.zero_add]; exact hb))
  have hge := grownCap_ge w (0 + m) 0 e
  have hcm := grownCap_le_maxLen w (0 + m) 0 e (by omega)
  refine ⟨_, _, hr, ?_, fun g hg => by cases hg; exact Nat.le_refl _, ⟨rfl, rfl, rfl, by simp, fun k hk _ => Below.heap_alloc w.drew _ k hk⟩⟩
  refine ⟨hnl, .inr ⟨w.heap.size, _, _, by rw [Nat.zero_add], Nat.zero_le _, heap_alloc_new w.drew _, by omega, hcm, ?_, ?_⟩⟩
  · simp only [Array.size_append, List.size_toArray, size_zeroCells, hz, List.nil_append, hnl, ← Nat.add_mul]
    congr 1
    omega
  · simp only [Array.toList_append, List.nil_append]
    rw [← hnl]
    exact List.take_left
theorem wpList_append_cut {ops : Array Oper} {rest : List Oper} {o : Oper} {a : Act} {w : World} {Q : Exit → Act → World → Prop} (hgd : o.guard = none) (s x : Operand) {t tx e : TypeId} {z : Value} {size bytes : Nat}
    (ho : o.op = .call { callee := .builtin .append, args := #[s, x], argTypes := #[t, tx] })
    (ht : P.underlying t = some (.slice e)) (hinf : (P.info? e).map (fun i => (i.zero, i.size, i.bytes)) = some (some z, size, bytes)) (hz : z.cells.size = size) (hsz : 0 < size)
    (base : Addr) (hs : a.eval s = .slice (some base) 0 0) (xv : Value) (n : Nat) (news : List Value) (hx : a.eval x = xv) (hsrc : Src P size tx xv n news w) (h0 : 0 < n)
    (hb : n * bytes ≤ 140737488355328) (hm : n ≤ maxLen)
    (h : ∀ v' w', OwnN w' e size v' n news → (∀ g, v'.ownBlock = some g → w.heap.size ≤ g) → Turn no w w' → wpList P ops Q rest (a.put o.dst v') w') : wpList P ops Q (o :: rest) a w :=
  wpList_plain hgd fun K hK => by
    obtain ⟨v', w', hr, h2, h3, h4⟩ := run_append_cut (P := P) ht hinf hz hsz o.type w base xv n news hsrc h0 hb hm
    unfold Oper.wp execOp
    simp only [ho, resolve, invoke, builtin, Sem.run_bind, Sem.run_pure, Result.andThen_ok, List.map_toArray, List.map_cons, List.map_nil, hs, hx, hr]
    exact hK _ _ (h v' w' h2 h3 h4)
end
/-- Accounts' cells, one behind the other. -/
def acC (l : List Ac) : List Value := l.flatMap (fun m => [.int .u64 m.ad, .int .u64 m.bal, .int .u64 m.bond, .int .u64 m.nonce, .bool m.jail])
theorem acC_len (l : List Ac) : (acC l).length = l.length * 5 := by
  induction l with
  | nil => rfl
  | cons m r ih => simp only [acC, List.flatMap_cons, List.length_append, List.length_cons, List.length_nil] at ih ⊢; omega
theorem acC_at : ∀ (l : List Ac) (j : Nat) (m : Ac), l[j]? = some m → ∀ i, i < 5 → (acC l)[j * 5 + i]? = [Value.int .u64 m.ad, .int .u64 m.bal, .int .u64 m.bond, .int .u64 m.nonce, .bool m.jail][i]?
  | x :: r, 0, m, h, i, hi => by
    simp at h
    subst h
    rw [acC, List.flatMap_cons, Nat.zero_mul, Nat.zero_add, List.getElem?_append_left (by simpa using hi)]
  | x :: r, j + 1, m, h, i, hi => by
    rw [acC, List.flatMap_cons, List.getElem?_append_right (by simp; omega)]
    have := acC_at r j m (by simpa using h) i hi
    rw [acC] at this
    rw [← this]
    congr 1
    simp
    omega
theorem AsAt.src {w : World} {a : Addr} {cap : Nat} {l : List Ac} (h : AsAt w (some a) cap l) : Src Tryz.prog 5 22 (.slice (some a) l.length cap) l.length (acC l) w := by
  refine Src.ofSlice w Tryz.underlying22 a l.length cap (acC l) (acC_len l) (fun j u hu => ?_) (fun u hu => ?_)
  · have hj : j < l.length * 5 := by rw [← acC_len]; exact (List.getElem?_eq_some_iff.1 hu).1
    have hm : l[j / 5]? = some (l[j / 5]'(by omega)) := List.getElem?_eq_getElem (by omega)
    obtain ⟨b, off, e, c0, c1, c2, c3, c4⟩ := h.cells _ _ hm
    cases e
    have hx := acC_at l (j / 5) _ hm (j % 5) (by omega)
    have ej : j / 5 * 5 + j % 5 = j := by omega
    rw [ej, hu] at hx
    rw [Addr.add_lit]
    rcases (show j % 5 = 0 ∨ j % 5 = 1 ∨ j % 5 = 2 ∨ j % 5 = 3 ∨ j % 5 = 4 by omega) with q | q | q | q | q <;> rw [q] at hx <;> simp at hx <;> subst hx
    · rw [show off + j = off + j / 5 * 5 by omega]; exact c0
    · rw [show off + j = off + j / 5 * 5 + 1 by omega]; exact c1
    · rw [show off + j = off + j / 5 * 5 + 2 by omega]; exact c2
    · rw [show off + j = off + j / 5 * 5 + 3 by omega]; exact c3
    · rw [show off + j = off + j / 5 * 5 + 4 by omega]; exact c4
  · unfold acC at hu
    rw [List.mem_flatMap] at hu
    obtain ⟨m, _, hm⟩ := hu
    simp at hm
    rcases hm with rfl | rfl | rfl | rfl | rfl <;> rfl
/-- Accounts in a row of their own. -/
theorem OwnN.as {w : World} {v : Value} {l : List Ac} (h : OwnN w 50 5 v l.length (acC l)) (hok : ∀ m ∈ l, m.ok) : As w v l := by
  obtain ⟨a, cap, rfl, h0, h1, h2, h3⟩ := h.form
  refine ⟨a, cap, rfl, h2, h3, hok, fun j m hj => ?_⟩
  have hjl := (List.getElem?_eq_some_iff.1 hj).1
  rcases h.2 with ⟨_, q⟩ | ⟨g, cap', cur, e, _⟩
  · omega
  · cases e
    have hc : ∀ i u, (acC l)[i]? = some u → w.cell? ⟨g, i, none⟩ = some u := fun i u hu => by
      have := World.ownsRow.cells h (g := g) rfl i u hu
      simpa [Addr.add_lit] using this
    have hx := acC_at l j m hj
    refine ⟨g, 0, rfl, ?_, ?_, ?_, ?_, ?_⟩
    · rw [Nat.zero_add]; exact hc _ _ (by have := hx 0 (by omega); simpa using this)
    · rw [Nat.zero_add]; exact hc _ _ (by have := hx 1 (by omega); simpa using this)
    · rw [Nat.zero_add]; exact hc _ _ (by have := hx 2 (by omega); simpa using this)
    · rw [Nat.zero_add]; exact hc _ _ (by have := hx 3 (by omega); simpa using this)
    · rw [Nat.zero_add]; exact hc _ _ (by have := hx 4 (by omega); simpa using this)
theorem info39 : (Tryz.prog.info? 50).map (fun i => (i.zero, i.size, i.bytes)) = some (some (.agg #[.int .u64 0, .int .u64 0, .int .u64 0, .int .u64 0, .bool false]), 5, 40) := by kernel_rfl
set_option maxRecDepth 100000 in
set_option maxHeartbeats 2000000 in
theorem copied20 (w : World) (v : Value) (l : List Ac) (h : As w v l) (hl : l.length * 40 ≤ 140737488355328) : Calls Tryz.prog 22 #[v] w fun e w' => ∃ v', e = .returned v' ∧ OwnN w' 50 5 v' l.length (acC l) ∧ (∀ g, v'.ownBlock = some g → w.heap.size ≤ g) ∧ Turn no w w' := by
  obtain ⟨a, cap, rfl, h⟩ := h
  by_cases h0 : l = []
  · subst h0
    clear h
    go_enter Tryz.func22, Tryz.ntmps22
    go_wp2_with fail
    go_ret
    exact ⟨_, rfl, OwnN.nil w 50 5, (fun g hg => by cases hg), Turn.refl _ _⟩
  · have hpos : 0 < l.length := List.length_pos_iff.2 h0
    obtain ⟨b, off, rfl, _⟩ := h.cells 0 (l[0]'hpos) (List.getElem?_eq_getElem hpos)
    have hS := h.src
    have hle := h.le
    have hcp := h.cap
    clear h
    obtain ⟨n, hn⟩ : ∃ n, Hid (l.length = n) := ⟨_, rfl⟩
    have hn' : l.length = n := hn.out
    rw [hn'] at hl hS hle hpos
    rw [hn']
    clear hn'
    have hb0 : ((n : Int) == 0) = false := by simp; omega
    go_enter Tryz.func22, Tryz.ntmps22
    go_wp2_with (at_builtin; go_loud (refine wpList_append_cut rfl (.tmp 7) (.tmp 8) rfl Tryz.underlying22 info39 rfl (by omega) ⟨b, off, none⟩ rfl _ n _ rfl hS hpos (by omega) (by unfold maxLen; omega) ?_))
    intro v' w' O f t
    go_wp2_with fail
    go_ret
    exact ⟨_, rfl, O, f, t⟩
end Go.Proofs.YtaoigopjfelgpaaGreatDoor


/- A ledger in memory; whole. -/
namespace Go.Proofs.YtaoigopjfelgpaaGreatDoor
open Go.RowKit
set_option linter.unusedVariables false

/-- A row. -/
structure Rl where
  ht : Nat
  ad : Nat
  born : Nat
  amt : Nat
def Rl.ok (m : Rl) : Prop := m.ht < 18446744073709551616 ∧ m.ad < 18446744073709551616 ∧ m.born < 18446744073709551616 ∧ m.amt < 18446744073709551616
/-- A list of rows, wherever it lies. -/
structure RsAt (w : World) (a : Option Addr) (cap : Nat) (l : List Rl) : Prop where
  le : l.length ≤ cap
  cap : cap ≤ maxLen
  ok : ∀ m ∈ l, m.ok
  cells : ∀ j m, l[j]? = some m → ∃ b off, a = some ⟨b, off, none⟩ ∧ w.cell? ⟨b, off + j * 4, none⟩ = some (.int .u64 m.ht) ∧ w.cell? ⟨b, off + j * 4 + 1, none⟩ = some (.int .u64 m.ad) ∧ w.cell? ⟨b, off + j * 4 + 2, none⟩ = some (.int .u64 m.born) ∧ w.cell? ⟨b, off + j * 4 + 3, none⟩ = some (.int .u64 m.amt)
def Rs (w : World) (v : Value) (l : List Rl) : Prop := ∃ a cap, v = .slice a l.length cap ∧ RsAt w a cap l
theorem RsAt.turn_no {w w' : World} {a : Option Addr} {cap : Nat} {l : List Rl} (h : RsAt w a cap l) (t : Turn no w w') : RsAt w' a cap l :=
  ⟨h.le, h.cap, h.ok, fun j m hj => by
    obtain ⟨b, off, e, c0, c1, c2, c3⟩ := h.cells j m hj
    exact ⟨b, off, e, t.keep c0 (fun q => q), t.keep c1 (fun q => q), t.keep c2 (fun q => q), t.keep c3 (fun q => q)⟩⟩
theorem Rs.turn_no {w w' : World} {v : Value} {l : List Rl} (h : Rs w v l) (t : Turn no w w') : Rs w' v l := by
  obtain ⟨a, cap, e, h⟩ := h
  exact ⟨a, cap, e, h.turn_no t⟩
/-- What whole reckons, wraps and all. -/
def stepA (S : Nat) (m : Ac) : Nat := min (((S + m.bal) % 18446744073709551616 + m.bond) % 18446744073709551616) 1152921504606846976
def stepR (S : Nat) (m : Rl) : Nat := min ((S + m.amt) % 18446744073709551616) 1152921504606846976
def wholeN (b : Nat) (l : List Ac) (r : List Rl) : Nat := r.foldl stepR (l.foldl stepA (min b 1152921504606846976))
theorem shut' {p : Prop} (h : p) : Hid p := h
theorem wrap_add (x y : Nat) : IntKind.u64.wrap ((x : Int) + (y : Int)) = (((x + y) % 18446744073709551616 : Nat) : Int) := by rw [IntKind.wrap_u64]; omega
theorem foldl_take {α β : Type} (f : β → α → β) (z : β) (l : List α) (k : Nat) (m : α) (h : l[k]? = some m) : (l.take (k + 1)).foldl f z = f ((l.take k).foldl f z) m := by
  rw [List.take_add_one, h, Option.toList_some, List.foldl_append]
  rfl
set_option maxRecDepth 100000 in
set_option maxHeartbeats 4000000 in
theorem whole21 (w : World) (va vr : Value) (l : List Ac) (r : List Rl) (ha : As w va l) (hr : Rs w vr r) (b s : Nat) : Calls Tryz.prog 23 #[.agg #[va, vr, .int .u64 b, .int .u64 s]] w fun e w' => e = .returned (.int .u64 (wholeN b l r)) ∧ Turn no w w' := by
  obtain ⟨a, cap, rfl, h⟩ := ha
  obtain ⟨a2, cap2, rfl, h2⟩ := hr
  have hle : l.length ≤ 9223372036854775807 := by have := h.le; have := h.cap; simp only [maxLen] at this; omega
  have hle2 : r.length ≤ 9223372036854775807 := by have := h2.le; have := h2.cap; simp only [maxLen] at this; omega
  obtain ⟨w1, hw1⟩ : ∃ w1, w1 = w.alloc (.cells #[.slice a l.length cap, .slice a2 r.length cap2, .int .u64 b, .int .u64 s] 30) := ⟨_, rfl⟩
  have t1 : Turn no w w1 := by rw [hw1]; exact (Turn.refl no w).alloc _
  have R1 : w1.heap[w.heap.size]? = some (.cells #[.slice a l.length cap, .slice a2 r.length cap2, .int .u64 b, .int .u64 s] 30 (0, 0)) := by rw [hw1]; exact heap_alloc_new w _
  have d0 : w1.cell? ⟨w.heap.size, 0, none⟩ = some (.slice a l.length cap) := cell_of_row _ _ 0 _ 30 (0, 0) R1
  have d1 : w1.cell? ⟨w.heap.size, 1, none⟩ = some (.slice a2 r.length cap2) := cell_of_row _ _ 1 _ 30 (0, 0) R1
  have d2 : w1.cell? ⟨w.heap.size, 2, none⟩ = some (.int .u64 b) := cell_of_row _ _ 2 _ 30 (0, 0) R1
  have hcells := (h.turn_no t1).cells
  have hcells2 := (h2.turn_no t1).cells
  obtain ⟨n, hn⟩ : ∃ n, Hid (l.length = n) := ⟨_, rfl⟩
  obtain ⟨n2, hn2⟩ : ∃ n, Hid (r.length = n) := ⟨_, rfl⟩
  have hn' : l.length = n := hn.out
  have hn2' : r.length = n2 := hn2.out
  rw [hn'] at hle d0 hw1
  rw [hn2'] at hle2 d1 hw1
  rw [hn', hn2']
  clear hn' hn2' h h2 R1
  go_enter Tryz.func23, Tryz.ntmps23
  go_upto_region 1 with fail
  try rw [← hw1]
  go_cut [3] from 8 to 10 (fun x wx => x = .int .u64 (min b 1152921504606846976 : Nat) ∧ wx = w1)
  case first =>
    by_cases hb : b ≤ 1152921504606846976
    · have hb' : (b : Int) ≤ 1152921504606846976 := by omega
      have e : min b 1152921504606846976 = b := by omega
      go_wp2_with fail
      go_meet
      case rel => exact ⟨by rw [e], hw1.symm⟩
    · have hb' : ¬ (b : Int) ≤ 1152921504606846976 := by omega
      have e : min b 1152921504606846976 = 1152921504606846976 := by omega
      go_wp2_with fail
      go_meet
      case rel => exact ⟨by rw [e]; rfl, hw1.symm⟩
  case rest =>
    obtain ⟨rfl, rfl⟩ := hcut
    clear hw1
    go_wp2_with fail
    go_loopw [3, 14] (fun x c wr => ∃ k : Nat, k ≤ n ∧ c = .int .i64 k ∧ x = .int .u64 ((l.take k).foldl stepA (min b 1152921504606846976) : Nat) ∧ Turn no wc wr) (fun _ c _ => n - (intOf c).toNat)
    case atStart => exact ⟨0, by omega, rfl, rfl, Turn.refl _ _⟩
    case round =>
      obtain ⟨k, hk, rfl, rfl, T⟩ := hrel
      have hf := fun m hm => foldl_take stepA (min b 1152921504606846976) l k m hm
      by_cases hlt : k < n
      · obtain ⟨m, hm⟩ : ∃ m, l[k]? = some m := ⟨l[k]'(by rw [hn.out]; exact hlt), List.getElem?_eq_getElem _⟩
        obtain ⟨bb, off, rfl, c0, c1, c2, c3, c4⟩ := hcells k m hm
        have c0 := T.keep c0 (fun q => q)
        have c1 := T.keep c1 (fun q => q)
        have c2 := T.keep c2 (fun q => q)
        have c3 := T.keep c3 (fun q => q)
        have c4 := T.keep c4 (fun q => q)
        have hlt' : (k : Int) < (n : Int) := by omega
        have hk1 : Hid (k + 1 ≤ n) := hlt
        have hst := hf m hm
        generalize (l.take k).foldl stepA (min b 1152921504606846976) = S at *
        have e1 := wrap_add S m.bal
        have e2 := wrap_add ((S + m.bal) % 18446744073709551616) m.bond
        unfold stepA at hst
        generalize (S + m.bal) % 18446744073709551616 = V1 at *
        generalize (V1 + m.bond) % 18446744073709551616 = V2 at *
        have HST : Hid ((l.take (k + 1)).foldl stepA (min b 1152921504606846976) = min V2 1152921504606846976) := hst
        clear hst hf hcells hm
        by_cases hv : V2 ≤ 1152921504606846976
        · have hv' : (V2 : Int) ≤ 1152921504606846976 := by omega
          have e3 : min V2 1152921504606846976 = V2 := by omega
          go_wp2_with fail
          go_roundw
          case rel => exact ⟨k + 1, hk1.out, by go_num, by rw [HST.out, e3], T.alloc _⟩
          case measure => have := hk1.out; simp [intOf]; omega
        · have hv' : ¬ (V2 : Int) ≤ 1152921504606846976 := by omega
          have e3 : min V2 1152921504606846976 = 1152921504606846976 := by omega
          go_wp2_with fail
          go_roundw
          case rel => exact ⟨k + 1, hk1.out, by go_num, by rw [HST.out, e3, if_pos (by omega)]; rfl, T.alloc _⟩
          case measure => have := hk1.out; simp [intOf]; omega
      · have hlt' : ¬ (k : Int) < (n : Int) := by omega
        have hfull : l.take k = l := List.take_of_length_le (by have := hn.out; omega)
        rw [hfull]
        have dd := T.keep d1 (fun q => q)
        clear hcells hf hfull
        generalize hS0 : l.foldl stepA (min b 1152921504606846976) = S0 at *
        have HS0 := shut' hS0
        clear hS0
        go_wp2_with fail
        go_loopw [3, 30] (fun x c wr => ∃ k : Nat, k ≤ n2 ∧ c = .int .i64 k ∧ x = .int .u64 ((r.take k).foldl stepR S0 : Nat) ∧ Turn no wc wr) (fun _ c _ => n2 - (intOf c).toNat)
        case atStart => exact ⟨0, by omega, rfl, rfl, T⟩
        case round =>
          clear T
          obtain ⟨j, hj, rfl, rfl, T⟩ := hrel
          have hf := fun m hm => foldl_take stepR S0 r j m hm
          by_cases hlt : j < n2
          · obtain ⟨m, hm⟩ : ∃ m, r[j]? = some m := ⟨r[j]'(by rw [hn2.out]; exact hlt), List.getElem?_eq_getElem _⟩
            obtain ⟨bb, off, rfl, c0, c1, c2, c3⟩ := hcells2 j m hm
            have c0 := T.keep c0 (fun q => q)
            have c1 := T.keep c1 (fun q => q)
            have c2 := T.keep c2 (fun q => q)
            have c3 := T.keep c3 (fun q => q)
            have hlt' : (j : Int) < (n2 : Int) := by omega
            have hk1 : Hid (j + 1 ≤ n2) := hlt
            have hst := hf m hm
            generalize (r.take j).foldl stepR S0 = S at *
            have e1 := wrap_add S m.amt
            unfold stepR at hst
            generalize (S + m.amt) % 18446744073709551616 = V1 at *
            have HST : Hid ((r.take (j + 1)).foldl stepR S0 = min V1 1152921504606846976) := hst
            clear hst hf hcells2 hm
            by_cases hv : V1 ≤ 1152921504606846976
            · have hv' : (V1 : Int) ≤ 1152921504606846976 := by omega
              have e3 : min V1 1152921504606846976 = V1 := by omega
              go_wp2_with fail
              go_roundw
              case rel => exact ⟨j + 1, hk1.out, by go_num, by rw [HST.out, e3], T.alloc _⟩
              case measure => have := hk1.out; simp [intOf]; omega
            · have hv' : ¬ (V1 : Int) ≤ 1152921504606846976 := by omega
              have e3 : min V1 1152921504606846976 = 1152921504606846976 := by omega
              go_wp2_with fail
              go_roundw
              case rel => exact ⟨j + 1, hk1.out, by go_num, by rw [HST.out, e3, if_pos (by omega)]; rfl, T.alloc _⟩
              case measure => have := hk1.out; simp [intOf]; omega
          · have hlt' : ¬ (j : Int) < (n2 : Int) := by omega
            have hfull : r.take j = r := List.take_of_length_le (by have := hn2.out; omega)
            rw [hfull]
            have HE : Hid (r.foldl stepR S0 = wholeN b l r) := by show _ = _; rw [wholeN, HS0.out]
            clear hcells2 hf hfull
            go_wp2_with fail
            go_ret
            exact ⟨by rw [← HE.out]; rfl, t1.then_no T⟩
end Go.Proofs.YtaoigopjfelgpaaGreatDoor


/- Sound of a ledger without rows. -/
namespace Go.Proofs.YtaoigopjfelgpaaGreatDoor
open Go.RowKit
set_option linter.unusedVariables false

set_option maxRecDepth 100000 in
set_option maxHeartbeats 2000000 in
theorem soundR28_nil (w : World) (a : Option Addr) (n cap : Nat) : Calls Tryz.prog 56 #[.slice a n cap, .slice none 0 0] w fun e w' => e = .returned (.int .i64 0) ∧ Turn no w w' := by
  have T : Turn no w (w.alloc (.cells #[.int .u64 0, .int .u64 0, .int .u64 0, .int .u64 0] 67)) := (Turn.refl no w).alloc _
  go_enter Tryz.func56, Tryz.ntmps56
  go_wp2_with fail
  go_loopw [12] (fun c wr => c = .int .i64 0 ∧ wr = w.alloc (.cells #[.int .u64 0, .int .u64 0, .int .u64 0, .int .u64 0] 67)) (fun c _ => 0)
  case atStart => exact ⟨rfl, rfl⟩
  case round =>
    obtain ⟨rfl, rfl⟩ := hrel
    go_wp2_with fail
    go_ret
    exact ⟨rfl, T⟩
/-- What is wrong with a ledger without rows. -/
def soundE (b : Nat) (l : List Ac) (s : Nat) : Int := if 65536 < l.length then 86 else if scanA 0 l ≠ 0 then scanA 0 l else if 1152921504606846975 < s ∨ wholeN b l [] ≠ s then 87 else 0
set_option maxRecDepth 100000 in
set_option maxHeartbeats 4000000 in
theorem sound11_nil (w : World) (va : Value) (l : List Ac) (ha : As w va l) (b s : Nat) : Calls Tryz.prog 24 #[.agg #[va, .slice none 0 0, .int .u64 b, .int .u64 s]] w fun e w' => e = .returned (.int .i64 (soundE b l s)) ∧ Turn no w w' := by
  obtain ⟨a, cap, rfl, h⟩ := id ha
  have hle : l.length ≤ 9223372036854775807 := by have := h.le; have := h.cap; simp only [maxLen] at this; omega
  obtain ⟨w1, hw1⟩ : ∃ w1, w1 = w.alloc (.cells #[.slice a l.length cap, .slice none 0 0, .int .u64 b, .int .u64 s] 30) := ⟨_, rfl⟩
  have t1 : Turn no w w1 := by rw [hw1]; exact (Turn.refl no w).alloc _
  have R1 : w1.heap[w.heap.size]? = some (.cells #[.slice a l.length cap, .slice none 0 0, .int .u64 b, .int .u64 s] 30 (0, 0)) := by rw [hw1]; exact heap_alloc_new w _
  have d : ∀ W, Turn no w1 W → W.cell? ⟨w.heap.size, 0, none⟩ = some (.slice a l.length cap) ∧ W.cell? ⟨w.heap.size, 1, none⟩ = some (.slice none 0 0) ∧ W.cell? ⟨w.heap.size, 2, none⟩ = some (.int .u64 b) ∧ W.cell? ⟨w.heap.size, 3, none⟩ = some (.int .u64 s) := fun W t =>
    ⟨t.keep (cell_of_row _ _ 0 _ 30 (0, 0) R1) (fun q => q), t.keep (cell_of_row _ _ 1 _ 30 (0, 0) R1) (fun q => q), t.keep (cell_of_row _ _ 2 _ 30 (0, 0) R1) (fun q => q), t.keep (cell_of_row _ _ 3 _ 30 (0, 0) R1) (fun q => q)⟩
  have HD := shut' d
  have cA := fun W (t : Turn no w1 W) => soundA27 W _ l (ha.turn_no (t1.then_no t))
  have cW := fun W (t : Turn no w1 W) => whole21 W _ _ l [] (ha.turn_no (t1.then_no t)) ⟨none, 0, rfl, by simp, by simp [maxLen], (fun m hm => by cases hm), fun j m hj => by simp at hj⟩ b s
  simp only [List.length_nil] at cW
  have HA := shut' cA
  have HC := shut' cW
  obtain ⟨n, hn⟩ : ∃ n, Hid (l.length = n) := ⟨_, rfl⟩
  have hn' : l.length = n := hn.out
  have hsE : soundE b l s = if 65536 < n then 86 else if scanA 0 l ≠ 0 then scanA 0 l else if 1152921504606846975 < s ∨ wholeN b l [] ≠ s then 87 else 0 := by rw [← hn']; rfl
  rw [hn'] at hle hw1 HD HA HC
  rw [hn']
  obtain ⟨z0, z1, z2, z3⟩ := HD.out w1 (Turn.refl no w1)
  have c1 := HA.out w1 (Turn.refl no w1)
  clear d cA cW h ha R1 hn'
  generalize scanA 0 l = E at *
  generalize wholeN b l [] = S at *
  by_cases h6 : 65536 < n
  · rw [if_pos h6] at hsE
    have h6' : (65536 : Int) < (n : Int) := by omega
    have HE := shut' hsE
    clear hsE
    go_enter Tryz.func24, Tryz.ntmps24
    go_wp2_with fail
    go_ret
    exact ⟨by rw [HE.out]; rfl, by rw [← hw1]; exact t1⟩
  · rw [if_neg h6] at hsE
    have h6' : ¬ (65536 : Int) < (n : Int) := by omega
    go_enter Tryz.func24, Tryz.ntmps24
    go_wp2_with fail
    try rw [← hw1]
    refine c1.mono ?_
    rintro e w2 ⟨rfl, t2⟩
    obtain ⟨y0, y1, y2, y3⟩ := HD.out w2 t2
    clear z0 z1 z2 z3 c1 hw1
    by_cases hE : E = 0
    · rw [if_neg (by simpa using hE)] at hsE
      subst hE
      go_wp2_with fail
      refine (soundR28_nil w2 _ _ _).mono ?_
      rintro e w3 ⟨rfl, t3⟩
      have t13 := t2.then_no t3
      obtain ⟨x0, x1, x2, x3⟩ := HD.out w3 t13
      clear y0 y1 y2 y3
      have D0 : ∀ W, Turn no w3 W → _ := fun W t => HD.out W (t13.then_no t)
      have HD3 := shut' D0
      clear D0
      by_cases hs : 1152921504606846975 < s
      · rw [if_pos (.inl hs)] at hsE
        have HE := shut' hsE
        have hs' : (1152921504606846975 : Int) < (s : Int) := by omega
        have hd : decide ((1152921504606846975 : Int) < (s : Int)) = true := by simp; omega
        clear hsE
        go_wp2_with fail
        refine wp_region_held_drew (S := fun W => Turn no w3 W) (by kernel_rfl) (Turn.refl no w3).drew (fun hHeld => ?_)
        refine' wpAnyH_take (i := 0) (v := .pointer (some ⟨w.heap.size, 3, none⟩)) rfl (by kernel_rfl) (by kernel_rfl) (by kernel_rfl) (fun _ _ _ h => h) (Or.inl ⟨by kernel_rfl, fun W hW => ?y1⟩) hHeld ?r1
        · go_simp
        refine' wpAnyH_take (i := 1) (v := .int .u64 s) rfl (by kernel_rfl) (by kernel_rfl) (by kernel_rfl) (fun _ _ _ h => h) (Or.inl ⟨by kernel_rfl, fun W hW => ?y2⟩) hHeld ?r2
        · have z := (HD3.out W hW).2.2.2
          go_simp
        refine' wpAnyH_take (i := 2) (v := .bool true) rfl (by kernel_rfl) (by kernel_rfl) (by kernel_rfl) (fun _ _ _ h => h) (Or.inl ⟨by kernel_rfl, fun W hW => ?y3⟩) hHeld ?r3
        · go_simp
        refine' wpAnyH_take (i := 3) (v := .bool true) rfl (by kernel_rfl) (by kernel_rfl) (by kernel_rfl) (fun _ _ _ h => h) (Or.inl ⟨by kernel_rfl, fun W hW => ?y4⟩) hHeld ?r4
        · go_simp
        refine' wpAnyH_take (i := 4) (v := undef) rfl (by kernel_rfl) (by kernel_rfl) (by kernel_rfl) (fun _ _ _ h => h) (Or.inr ⟨by kernel_rfl, rfl⟩) hHeld ?r5
        refine' wpAnyH_take (i := 6) (v := undef) rfl (by kernel_rfl) (by kernel_rfl) (by kernel_rfl) (fun _ _ _ h => h) (Or.inr ⟨by kernel_rfl, rfl⟩) hHeld ?r6
        refine' wpAnyH_take (i := 7) (v := undef) rfl (by kernel_rfl) (by kernel_rfl) (by kernel_rfl) (fun _ _ _ h => h) (Or.inr ⟨by kernel_rfl, rfl⟩) hHeld ?r7
        refine wpAnyH_ready (rs := [5]) (by kernel_rfl) (by simp) ?_
        refine AllReadyH.cons rfl (fun K hK => ?_) AllReadyH.nil
        go_simp
        refine hK.out _ _ hHeld (fun hHeld => ?_)
        clear hK
        refine' wpAnyH_take (i := 8) (v := undef) rfl (by kernel_rfl) (by kernel_rfl) (by kernel_rfl) (fun _ _ _ h => h) (Or.inr ⟨by kernel_rfl, rfl⟩) hHeld ?r8
        refine' wpAnyH_take (i := 9) (v := .bool true) rfl (by kernel_rfl) (by kernel_rfl) (by kernel_rfl) (fun _ _ _ h => h) (Or.inl ⟨by kernel_rfl, fun W hW => ?y9⟩) hHeld ?r9
        · go_simp
        refine wpAnyH_done (by kernel_rfl) ?_ _
        go_wp2_with fail
        go_ret
        exact ⟨by rw [HE.out]; rfl, (t1.then_no t13).then_no (Turn.refl no w3).drew⟩
      · have hs' : ¬ (1152921504606846975 : Int) < (s : Int) := by omega
        have hd : decide ((1152921504606846975 : Int) < (s : Int)) = false := by simp; omega
        have cur0 : Turn no w3 w3.drew := (Turn.refl no w3).drew
        have cC := HC.out w3.drew (t13.then_no cur0)
        have hsE' : soundE b l s = if ((S : Int) != (s : Int)) = true then 87 else 0 := by
          rw [hsE]
          by_cases q : S = s
          · rw [if_neg (by omega), if_neg (by simp; omega)]
          · rw [if_pos (.inr q), if_pos (by simp; omega)]
        have HE := shut' hsE'
        clear hsE hsE'
        go_wp2_with fail
        refine wp_region_held_drew (S := fun W => Turn no w3 W) (by kernel_rfl) (Turn.refl no w3).drew (fun hHeld => ?_)
        refine' wpAnyH_take (i := 0) (v := .pointer (some ⟨w.heap.size, 3, none⟩)) rfl (by kernel_rfl) (by kernel_rfl) (by kernel_rfl) (fun _ _ _ h => h) (Or.inl ⟨by kernel_rfl, fun W hW => ?y10⟩) hHeld ?r10
        · go_simp
        refine' wpAnyH_take (i := 1) (v := .int .u64 s) rfl (by kernel_rfl) (by kernel_rfl) (by kernel_rfl) (fun _ _ _ h => h) (Or.inl ⟨by kernel_rfl, fun W hW => ?y11⟩) hHeld ?r11
        · have z := (HD3.out W hW).2.2.2
          go_simp
        refine' wpAnyH_take (i := 2) (v := .bool false) rfl (by kernel_rfl) (by kernel_rfl) (by kernel_rfl) (fun _ _ _ h => h) (Or.inl ⟨by kernel_rfl, fun W hW => ?y12⟩) hHeld ?r12
        · go_simp
        refine' wpAnyH_take (i := 3) (v := .bool false) rfl (by kernel_rfl) (by kernel_rfl) (by kernel_rfl) (fun _ _ _ h => h) (Or.inl ⟨by kernel_rfl, fun W hW => ?y13⟩) hHeld ?r13
        · go_simp
        refine' wpAnyH_take (i := 4) (v := .agg #[.slice a n cap, .slice none 0 0, .int .u64 b, .int .u64 s]) rfl (by kernel_rfl) (by kernel_rfl) (by kernel_rfl) (fun _ _ _ h => h) (Or.inl ⟨by kernel_rfl, fun W hW => ?y14⟩) hHeld ?r14
        · obtain ⟨q0, q1, q2, q3⟩ := HD3.out W hW
          go_simp
        refine' wpAnyH_take (i := 6) (v := .pointer (some ⟨w.heap.size, 3, none⟩)) rfl (by kernel_rfl) (by kernel_rfl) (by kernel_rfl) (fun _ _ _ h => h) (Or.inl ⟨by kernel_rfl, fun W hW => ?y15⟩) hHeld ?r15
        · go_simp
        refine' wpAnyH_take (i := 7) (v := .int .u64 s) rfl (by kernel_rfl) (by kernel_rfl) (by kernel_rfl) (fun _ _ _ h => h) (Or.inl ⟨by kernel_rfl, fun W hW => ?y16⟩) hHeld ?r16
        · have z := (HD3.out W hW).2.2.2
          go_simp
        refine wpAnyH_ready (rs := [5]) (by kernel_rfl) (by simp) ?_
        refine AllReadyH.cons rfl (fun K hK => ?_) AllReadyH.nil
        go_simp
        refine cC.mono ?_
        rintro e w4 ⟨rfl, t4⟩
        have t34 := cur0.then_no t4
        refine hK.out _ _ t34 (fun hHeld => ?_)
        clear hK
        refine' wpAnyH_take (i := 8) (v := .bool ((S : Int) != (s : Int))) rfl (by kernel_rfl) (by kernel_rfl) (by kernel_rfl) (fun _ _ _ h => h) (Or.inl ⟨by kernel_rfl, fun W hW => ?y17⟩) hHeld ?r17
        · go_simp
        refine' wpAnyH_take (i := 9) (v := .bool ((S : Int) != (s : Int))) rfl (by kernel_rfl) (by kernel_rfl) (by kernel_rfl) (fun _ _ _ h => h) (Or.inl ⟨by kernel_rfl, fun W hW => ?y18⟩) hHeld ?r18
        · go_simp
        refine wpAnyH_done (by kernel_rfl) ?_ _
        generalize ((S : Int) != (s : Int)) = Q at *
        cases Q
        · go_wp2_with fail
          go_ret
          exact ⟨by rw [HE.out]; rfl, (t1.then_no t13).then_no t34⟩
        · go_wp2_with fail
          go_ret
          exact ⟨by rw [HE.out]; rfl, (t1.then_no t13).then_no t34⟩
    · rw [if_pos hE] at hsE
      have HE := shut' hsE
      have hE' : (E != 0) = true := by simpa using hE
      clear hsE
      go_wp2_with fail
      go_ret
      exact ⟨by rw [HE.out]; rfl, t1.then_no t2⟩
end Go.Proofs.YtaoigopjfelgpaaGreatDoor


/- New. -/
namespace Go.Proofs.YtaoigopjfelgpaaGreatDoor
open Go.RowKit
set_option linter.unusedVariables false

/-- Four cells of a row, written one by one. -/
theorem store4 {w : World} {g : Nat} {a b c d : Value} {t : TypeId} (R : w.heap[g]? = some (.cells #[a, b, c, d] t (0, 0))) (x0 x1 x2 x3 : Value) :
    (w.cell? ⟨g, 0, none⟩ = some a ∧ w.frozen? ⟨g, 0, none⟩ = false) ∧ ((w.setCell ⟨g, 0, none⟩ x0).cell? ⟨g, 1, none⟩ = some b ∧ (w.setCell ⟨g, 0, none⟩ x0).frozen? ⟨g, 1, none⟩ = false) ∧
    (((w.setCell ⟨g, 0, none⟩ x0).setCell ⟨g, 1, none⟩ x1).cell? ⟨g, 2, none⟩ = some c ∧ ((w.setCell ⟨g, 0, none⟩ x0).setCell ⟨g, 1, none⟩ x1).frozen? ⟨g, 2, none⟩ = false) ∧
    ((((w.setCell ⟨g, 0, none⟩ x0).setCell ⟨g, 1, none⟩ x1).setCell ⟨g, 2, none⟩ x2).cell? ⟨g, 3, none⟩ = some d ∧ (((w.setCell ⟨g, 0, none⟩ x0).setCell ⟨g, 1, none⟩ x1).setCell ⟨g, 2, none⟩ x2).frozen? ⟨g, 3, none⟩ = false) ∧
    ((((w.setCell ⟨g, 0, none⟩ x0).setCell ⟨g, 1, none⟩ x1).setCell ⟨g, 2, none⟩ x2).setCell ⟨g, 3, none⟩ x3).heap[g]? = some (.cells #[x0, x1, x2, x3] t (0, 0)) ∧
    Turn (fun k => k = g) w ((((w.setCell ⟨g, 0, none⟩ x0).setCell ⟨g, 1, none⟩ x1).setCell ⟨g, 2, none⟩ x2).setCell ⟨g, 3, none⟩ x3) := by
  have R1 := heap_setCell_same w g 0 _ t x0 R
  have R2 := heap_setCell_same _ g 1 _ t x1 R1
  have R3 := heap_setCell_same _ g 2 _ t x2 R2
  have R4 := heap_setCell_same _ g 3 _ t x3 R3
  refine ⟨⟨cell_of_row _ _ 0 _ t (0, 0) R, frozen_of_row _ _ 0 _ t R⟩, ⟨cell_of_row _ _ 1 _ t (0, 0) R1, frozen_of_row _ _ 1 _ t R1⟩, ⟨cell_of_row _ _ 2 _ t (0, 0) R2, frozen_of_row _ _ 2 _ t R2⟩, ⟨cell_of_row _ _ 3 _ t (0, 0) R3, frozen_of_row _ _ 3 _ t R3⟩, R4, ?_⟩
  exact ((((Turn.refl (fun k => k = g) w).setCell (p := ⟨g, 0, none⟩) (fun _ => rfl) _).setCell (p := ⟨g, 1, none⟩) (fun _ => rfl) _).setCell (p := ⟨g, 2, none⟩) (fun _ => rfl) _).setCell (p := ⟨g, 3, none⟩) (fun _ => rfl) _
set_option maxRecDepth 100000 in
set_option maxHeartbeats 4000000 in
theorem new6 (w : World) (va : Value) (l : List Ac) (ha : As w va l) (hl : l.length * 40 ≤ 140737488355328) : Calls Tryz.prog 6 #[va] w fun e w' =>
    (soundE 0 l (wholeN 0 l []) = 0 ∧ ∃ v', e = .returned (.tuple #[.agg #[v', .slice none 0 0, .int .u64 0, .int .u64 (wholeN 0 l [])], .int .i64 0]) ∧ OwnN w' 50 5 v' l.length (acC l) ∧ (∀ g, v'.ownBlock = some g → w.heap.size ≤ g) ∧ Turn no w w') ∨
    (soundE 0 l (wholeN 0 l []) ≠ 0 ∧ e = .returned (.tuple #[.agg #[.slice none 0 0, .slice none 0 0, .int .u64 0, .int .u64 0], .int .i64 (soundE 0 l (wholeN 0 l []))]) ∧ Turn no w w') := by
  have hok : ∀ m ∈ l, m.ok := by
    obtain ⟨_, _, _, h⟩ := ha
    exact h.ok
  obtain ⟨w1, hw1⟩ : ∃ w1, w1 = w.alloc (.cells #[.slice none 0 0, .slice none 0 0, .int .u64 0, .int .u64 0] 30) := ⟨_, rfl⟩
  have t1 : Turn no w w1 := by rw [hw1]; exact (Turn.refl no w).alloc _
  have R1 : w1.heap[w.heap.size]? = some (.cells #[.slice none 0 0, .slice none 0 0, .int .u64 0, .int .u64 0] 30 (0, 0)) := by rw [hw1]; exact heap_alloc_new w _
  have c1 := copied20 w1 va l (ha.turn_no t1) hl
  obtain ⟨a, cap, rfl, _⟩ := ha
  go_enter Tryz.func6, Tryz.ntmps6
  go_wp2_with fail
  try rw [← hw1]
  refine c1.mono ?_
  rintro e w2 ⟨v2, rfl, O2, f2, t2⟩
  obtain ⟨a2, cap2, e2, _⟩ := id O2.form
  subst e2
  obtain ⟨w3, hw3⟩ : ∃ w3, w3 = w2.alloc (.cells #[.slice a2 l.length cap2, .slice none 0 0, .int .u64 0, .int .u64 0] 30) := ⟨_, rfl⟩
  have t3 : Turn no w2 w3 := by rw [hw3]; exact (Turn.refl no w2).alloc _
  have R3 : w3.heap[w2.heap.size]? = some (.cells #[.slice a2 l.length cap2, .slice none 0 0, .int .u64 0, .int .u64 0] 30 (0, 0)) := by rw [hw3]; exact heap_alloc_new w2 _
  have A3 := (O2.as hok).turn_no t3
  have cW := whole21 w3 _ _ l [] A3 ⟨none, 0, rfl, by simp, by simp [maxLen], (fun m hm => by cases hm), fun j m hj => by simp at hj⟩ 0 0
  have cW : Calls Tryz.prog 23 #[.agg #[.slice a2 l.length cap2, .slice none 0 0, .int .u64 0, .int .u64 0]] w3 fun e w' => e = .returned (.int .u64 (wholeN 0 l [])) ∧ Turn no w3 w' := cW
  generalize hS : wholeN 0 l [] = S at *
  have HS := shut' hS
  clear hS
  clear c1
  go_wp2_with fail
  try rw [← hw3]
  refine cW.mono ?_
  rintro e w4 ⟨rfl, t4⟩
  have R4 := t4.obj R3 (fun q => q)
  have c3 : w4.cell? ⟨w2.heap.size, 3, none⟩ = some (.int .u64 0) := cell_of_row _ _ 3 _ 30 (0, 0) R4
  have f3 : w4.frozen? ⟨w2.heap.size, 3, none⟩ = false := frozen_of_row _ _ 3 _ 30 R4
  have R5 : (w4.setCell ⟨w2.heap.size, 3, none⟩ (.int .u64 S)).heap[w2.heap.size]? = some (.cells #[.slice a2 l.length cap2, .slice none 0 0, .int .u64 0, .int .u64 S] 30 (0, 0)) := heap_setCell_same w4 w2.heap.size 3 _ 30 _ R4
  obtain ⟨w5, hw5⟩ : ∃ w5, w5 = w4.setCell ⟨w2.heap.size, 3, none⟩ (.int .u64 S) := ⟨_, rfl⟩
  have t5 : Turn (fun k => k = w2.heap.size) w4 w5 := by rw [hw5]; exact (Turn.refl (fun k => k = w2.heap.size) w4).setCell (p := ⟨w2.heap.size, 3, none⟩) (fun _ => rfl) _
  rw [← hw5] at R5
  have s2 := t2.size
  have A5 : As w5 (.slice a2 l.length cap2) l := by
    obtain ⟨x, y, e, h⟩ := A3.turn_no t4
    refine ⟨x, y, e, h.turn t5 (fun q hq z => ?_)⟩
    have : a2 = x := by simp at e; exact e.1
    have hlt := O2.lt (g := q.block) (by rw [this, hq]; rfl)
    have : q.block = w2.heap.size := z
    omega
  have cS := sound11_nil w5 _ l A5 0 S
  have y0 : w5.cell? ⟨w2.heap.size, 0, none⟩ = some (.slice a2 l.length cap2) := cell_of_row _ _ 0 _ 30 (0, 0) R5
  have y1 : w5.cell? ⟨w2.heap.size, 1, none⟩ = some (.slice none 0 0) := cell_of_row _ _ 1 _ 30 (0, 0) R5
  have y2 : w5.cell? ⟨w2.heap.size, 2, none⟩ = some (.int .u64 0) := cell_of_row _ _ 2 _ 30 (0, 0) R5
  have y3 : w5.cell? ⟨w2.heap.size, 3, none⟩ = some (.int .u64 S) := cell_of_row _ _ 3 _ 30 (0, 0) R5
  rw [hw5] at y0 y1 y2 y3
  have cS : Calls Tryz.prog 24 #[.agg #[.slice a2 l.length cap2, .slice none 0 0, .int .u64 0, .int .u64 S]] w5 fun e w' => e = .returned (.int .i64 (soundE 0 l S)) ∧ Turn no w5 w' := cS
  generalize hEE : soundE 0 l S = E at *
  have HEE := shut' hEE
  clear hEE
  go_wp2_with fail
  try rw [← hw5]
  refine cS.mono ?_
  rintro e w6 ⟨rfl, t6⟩
  have T5 : Turn (fun k => k = w2.heap.size) w1 w5 := ((t2.then_no t3).then_no t4).of_no.trans t5 (fun _ _ q => q)
  have T6 : Turn (fun k => k = w2.heap.size) w1 w6 := T5.then_no t6
  have s1 : w.heap.size < w1.heap.size := by rw [hw1]; simp
  have R6 := T6.obj R1 (fun q => by omega)
  have R7 := t6.obj R5 (fun q => q)
  have TF : Turn no w w6 := t1.trans T6 (fun k hk q => by omega)
  have O6 : OwnN w6 50 5 (.slice a2 l.length cap2) l.length (acC l) := (((O2.turn_no (t3.then_no t4)).turn t5 (fun g hg z => by have := O2.lt hg; omega))).turn_no t6
  have x0 : w6.cell? ⟨w2.heap.size, 0, none⟩ = some (.slice a2 l.length cap2) := cell_of_row _ _ 0 _ 30 (0, 0) R7
  have x1 : w6.cell? ⟨w2.heap.size, 1, none⟩ = some (.slice none 0 0) := cell_of_row _ _ 1 _ 30 (0, 0) R7
  have x2 : w6.cell? ⟨w2.heap.size, 2, none⟩ = some (.int .u64 0) := cell_of_row _ _ 2 _ 30 (0, 0) R7
  have x3 : w6.cell? ⟨w2.heap.size, 3, none⟩ = some (.int .u64 S) := cell_of_row _ _ 3 _ 30 (0, 0) R7
  clear y0 y1 y2 y3 c3 f3 cS cW hw5 hw3
  by_cases hE : E = 0
  · subst hE
    obtain ⟨⟨p0, p1⟩, ⟨p2, p3⟩, ⟨p4, p5⟩, ⟨p6, p7⟩, RF, TS⟩ := store4 R6 (.slice a2 l.length cap2) (.slice none 0 0) (.int .u64 0) (.int .u64 S)
    have HRF := shut' RF
    have OF := shut' (O6.turn TS (fun g hg z => by have := f2 g hg; omega))
    have HTF := shut' (TF.trans TS (fun k hk q => by omega))
    clear RF TS R6 R7 O6 TF T5 T6 R5 R4 R3 A5 A3 O2
    go_wp2_with fail
    refine ⟨rfl, _, results_cell_row_tmp (g := w.heap.size) (cs := #[.slice a2 l.length cap2, .slice none 0 0, .int .u64 0, .int .u64 S]) (t := 30) rfl _ _ _ _ rfl HRF.out Tryz.underlying30 rfl (by kernel_rfl), Or.inl ⟨by rw [HS.out]; exact HEE.out, _, by rw [HS.out]; rfl, OF.out, fun g hg => by have := f2 g hg; omega, HTF.out⟩⟩
  · have hE' : (E != 0) = true := by simpa using hE
    obtain ⟨⟨p0, p1⟩, ⟨p2, p3⟩, ⟨p4, p5⟩, ⟨p6, p7⟩, RF, TS⟩ := store4 R6 (.slice none 0 0) (.slice none 0 0) (.int .u64 0) (.int .u64 0)
    have HRF := shut' RF
    have HTF := shut' (TF.trans TS (fun k hk q => by omega))
    clear RF TS R6 R7 O6 TF T5 T6 R5 R4 R3 A5 A3 O2
    go_wp2_with fail
    refine ⟨rfl, _, results_cell_row_tmp (g := w.heap.size) (cs := #[.slice none 0 0, .slice none 0 0, .int .u64 0, .int .u64 0]) (t := 30) rfl _ _ _ _ rfl HRF.out Tryz.underlying30 rfl (by kernel_rfl), Or.inr ⟨by rw [HS.out, HEE.out]; exact hE, by rw [HS.out, HEE.out]; rfl, HTF.out⟩⟩
end Go.Proofs.YtaoigopjfelgpaaGreatDoor



