/- digest.Prove of a list of forms, on both sides. -/
import Derived.Test.YtaoigopjfelgpaaGreatDoorPc
import Derived.Test.YtaoigopjfelgpaaGreatDoorKa
namespace Go.Proofs.YtaoigopjfelgpaaGreatDoor
open Go.RowKit
set_option linter.unusedVariables false

theorem its_ok {its : Its} {l : List Ac} (hq : txs its = forms l) (hn : l.length ≤ 65536) : its.length = l.length ∧ okL its := by
  have e : its.length = l.length := by rw [← txs_len, hq, forms_len]
  exact ⟨e, by omega, fun x hx => form_small l x.2 (by rw [← hq]; exact List.mem_map_of_mem hx)⟩
theorem pr_forms {its : Its} {l : List Ac} {k : Nat} (hq : txs its = forms l) (hn : l.length ≤ 65536) (hk : k < l.length) : prE its k = 0 ∧ prT its k = l.length ∧ prI its k = k ∧ prA its k = wayH (forms l) k := by
  obtain ⟨e, ho⟩ := its_ok hq hn
  have h0 : prE its k = 0 := by
    unfold prE
    rw [if_neg (by rw [(big_of its).2 ho]; decide), if_neg (by omega)]
  refine ⟨h0, ?_, ?_, ?_⟩
  · unfold prT; rw [if_pos h0, e]
  · unfold prI; rw [if_pos h0]
  · unfold prA; rw [if_pos h0, hq]; rfl
/-- A proof in new memory. -/
def Pn (w : World) (q : Pf) (e : Ending) (w' : World) : Prop := ∃ v, e = .returned (.tuple #[.agg #[.int .i64 q.t, .int .i64 q.i, v], .int .i64 0]) ∧ OwnN w' 40 32 v q.A.length (hsF q.A) ∧ (∀ g, v.ownBlock = some g → w.heap.size ≤ g) ∧ Turn no w w'
theorem Pv.pn {w w' : World} {its : Its} {l : List Ac} {k : Nat} {e : Ending} (hq : txs its = forms l) (hn : l.length ≤ 65536) (hk : k < l.length) (h : Pv w its k e w') : Pn w (pfOf l k) e w' := by
  obtain ⟨h0, h1, h2, h3⟩ := pr_forms hq hn hk
  obtain ⟨v, q1, q2, q3, q4⟩ := h
  rw [h0, h1, h2] at q1
  rw [h3] at q2
  exact ⟨v, q1, q2, q3, q4⟩
theorem prove24 (w : World) (hl : Laid1 w) (h2 : 2 ≤ w.heap.size) (a : Option Addr) (ca : Nat) (its : Its) (l : List Ac) (k : Nat) (h : BlAt w a ca its) (hq : txs its = forms l) (hn : l.length ≤ 65536) (hk : k < l.length) : Calls Tryz.prog 45 #[.slice a its.length ca, .int .i64 k] w (Pn w (pfOf l k)) :=
  (prove14 w a ca its k h hl h2).mono fun _ _ q => q.pn hq hn hk
theorem rprove32 (w : World) (hl : Laid0 w) (h2 : 2 ≤ w.heap.size) (a : Option Addr) (ca : Nat) (its : Its) (l : List Ac) (k : Nat) (h : BlAt w a ca its) (hq : txs its = forms l) (hn : l.length ≤ 65536) (hk : k < l.length) : Calls Tryz.prog 50 #[.slice a its.length ca, .int .i64 k] w (Pn w (pfOf l k)) :=
  (prove15 w a ca its k h hl h2).mono fun _ _ q => q.pn hq hn hk
end Go.Proofs.YtaoigopjfelgpaaGreatDoor

