/- Open, of the log that a disk between two lives holds; and again. -/
import Derived.Test.YtbkbecjgphjpkabDoorG11
namespace Go.Proofs.YtbkbecjgphjpkabDoor
open Go.RowKit Go.Maps
set_option linter.unusedVariables false

/-- What Open answers. -/
def Opened (w : World) (p : Nat) (M : Nat → Prop) (t' : St) (x : List (List UInt8)) (e : Ending) (w' : World) : Prop :=
  ∃ q vl C M', e = .returned (.tuple #[ptr q, vl, .int .i64 0]) ∧ w.heap.size ≤ C ∧ C ≤ q ∧ LsK w.heap.size C w' vl x ∧ Dk w' p M' t' ∧ (∀ k, M' k → M k ∨ C ≤ k) ∧ ¬ M' q ∧ Lg w' q p nm0 x.length x.length false ∧ Turn M w w'
section
variable {w : World} {p : Nat} {M : Nat → Prop} {s : St} {x : List (List UInt8)}
theorem open_any {t t' : St} (hk : Dk w p M t) (b : Bt t x) (e : opnS t nm0 = t') (hs : (sizeS t' nm0).2 = (cat x).length) (hL : LaidT w) (h0 : ¬ M 0) :
    Calls Tryd.prog 6 #[ptr p, strV nm0] w (Opened w p M t' x) := by
  obtain ⟨bs, hF, hsc⟩ := b.fil
  obtain ⟨r1, r2, r3⟩ := hF.read b.on
  have hbl : bs.length ≤ 1073741824 := by
    rcases hF with ⟨_, rfl, _⟩ | e'
    · simp
    · obtain ⟨bf, bt, V, k⟩ := id hk
      exact k.len (f := ⟨nm0, bs, bs.length⟩) (by rw [e']; simp)
  have hcl : (cat x).length ≤ bs.length := by
    have := (scan_stands _ bs (Nat.lt_succ_self _)).2.1
    rw [hsc] at this
    exact this
  have hn := b.n1
  have c := open6 hk (by omega) nm0_len hL h0 (nm := nm0) (by rw [r1]; exact hbl) (by rw [e, hs]; omega) r3 (fun hl => (b.cut hl).1)
  rw [b.reads.1, e, hs, cwN_all x _ (Nat.le_refl _)] at c
  exact c
theorem open_first (hk : Dk w p M s) (b : Bt s x) (hn : s.n = 0) (hL : LaidT w) (h0 : ¬ M 0) : Calls Tryd.prog 6 #[ptr p, strV nm0] w (Opened w p M (opnS s nm0) x) :=
  open_any hk b rfl (b.opn hn).2.2.1 hL h0
theorem open_again (hk : Dk w p M (opnS s nm0)) (b : Bt s x) (hn : s.n = 0) (hL : LaidT w) (h0 : ¬ M 0) : Calls Tryd.prog 6 #[ptr p, strV nm0] w (Opened w p M (opnS s nm0) x) :=
  open_any hk (b.opn hn).1 (b.again hn).1 (b.opn hn).2.2.1 hL h0
theorem Bt.begins (b : Bt s x) (hn : s.n = 0) : Ld (opnS s nm0) x [] x.length x.length x.length false := by
  have h := b.ld hn
  rw [(b.opn hn).2.2.1, cwN_all x _ (Nat.le_refl _)] at h
  exact h
end
end Go.Proofs.YtbkbecjgphjpkabDoor
