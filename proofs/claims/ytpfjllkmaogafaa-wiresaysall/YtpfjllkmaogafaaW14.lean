/- 'read' of a Reader, whatever its error; End; a list of reads as it lies in memory. -/
import Derived.Test.YtpfjllkmaogafaaW13
namespace Go.Proofs.Ytpfjllkmaogafaa
open Go.RowKit
set_option linter.unusedVariables false

/-- What End answers. -/
def rend (bs : List UInt8) (i : Nat) (e0 : Int) : Int := if e0 = 0 then (if i < bs.length then 13 else 0) else e0

theorem end_any (w : World) (p : Nat) (v : Value) (bs : List UInt8) (i : Nat) (e0 : Int) (h : Rd w p v bs i e0) :
    Calls Try.prog 117 #[.pointer (some ⟨p, 0, none⟩)] w fun e w' => e = .returned (.int .i64 (rend bs i e0)) ∧ ∃ n, w' = w.drewN n := by
  unfold rend
  by_cases he : e0 = 0
  · subst he
    rw [if_pos rfl]
    exact end_made w p v bs i h
  · rw [if_neg he]
    refine (end_err w _ e0 h.errs (by simpa using he)).mono ?_
    rintro e w' ⟨rfl, rfl⟩
    exact ⟨rfl, 0, rfl⟩

/-- A list of reads, as it lies in memory. -/
def Gs (w : World) (v : Value) (gs : List (Int × Int × Int)) : Prop :=
  (v = .slice none 0 0 ∧ gs = []) ∨ ∃ a cap, v = .slice (some a) gs.length cap ∧ gs.length ≤ cap ∧ cap ≤ maxLen ∧
    ∀ j g, gs[j]? = some g → w.cell? (a.add (j * 3)) = some (.int .i64 g.1) ∧ w.cell? (a.add (j * 3 + 1)) = some (.int .i64 g.2.1) ∧ w.cell? (a.add (j * 3 + 2)) = some (.int .i64 g.2.2) ∧ g.2.1 < 9223372036854775808 ∧ g.2.2 < 9223372036854775808

theorem Gs.slice {w : World} {v : Value} {gs : List (Int × Int × Int)} (h : Gs w v gs) : ∃ a cap, v = .slice a gs.length cap := by
  rcases h with ⟨rfl, rfl⟩ | ⟨a, cap, rfl, _⟩
  · exact ⟨none, 0, rfl⟩
  · exact ⟨some a, cap, rfl⟩
theorem Gs.le {w : World} {v : Value} {gs : List (Int × Int × Int)} (h : Gs w v gs) : gs.length ≤ maxLen := by
  rcases h with ⟨_, rfl⟩ | ⟨_, _, _, h1, h2, _⟩
  · exact Nat.zero_le _
  · omega
theorem Gs.at {w : World} {v : Value} {gs : List (Int × Int × Int)} (h : Gs w v gs) (hp : 0 < gs.length) :
    ∃ b off cap, v = .slice (some ⟨b, off, none⟩) gs.length cap ∧ gs.length ≤ cap ∧ ∀ j g, gs[j]? = some g → w.cell? ⟨b, off + j * 3, none⟩ = some (.int .i64 g.1) ∧ w.cell? ⟨b, off + j * 3 + 1, none⟩ = some (.int .i64 g.2.1) ∧ w.cell? ⟨b, off + j * 3 + 2, none⟩ = some (.int .i64 g.2.2) ∧ g.2.1 < 9223372036854775808 ∧ g.2.2 < 9223372036854775808 := by
  rcases h with ⟨_, rfl⟩ | ⟨⟨b, off, spot⟩, cap, rfl, h1, _, h3⟩
  · simp at hp
  · have hs : spot = none := by
      have := World.cell?_spot (h3 0 gs[0] (by simp [hp])).1
      simpa [Addr.add] using this
    subst hs
    refine ⟨b, off, cap, rfl, h1, fun j g hg => ?_⟩
    have := h3 j g hg
    rw [Addr.add_lit, Addr.add_lit, Addr.add_lit] at this
    simpa [Nat.add_assoc] using this
end Go.Proofs.Ytpfjllkmaogafaa

