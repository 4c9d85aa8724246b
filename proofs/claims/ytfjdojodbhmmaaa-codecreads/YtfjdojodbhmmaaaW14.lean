/- 'read' of a Reader, whatever its error; End; a list of reads as it lies in memory. -/
import Derived.Test.YtfjdojodbhmmaaaW13
namespace Go.Proofs.Ytfjdojodbhmmaaa
open Go.RowKit
set_option linter.unusedVariables false

theorem read_errs (w : World) (rv : Value) (k a b e0 : Int) (h : Errs w rv e0) (h0 : (e0 != 0) = true) :
    Calls Try.prog 20 #[rv, .agg #[.int .i64 k, .int .i64 a, .int .i64 b]] w fun e w' => ∃ vB, e = .returned (.agg #[.int .u64 0, vB]) ∧ Bs w' vB [] ∧ (∀ g, vB.ownBlock = some g → w.heap.size ≤ g) ∧ Turn no w w' := by
  have hE := h.turn_no (Rw.turn w k a b)
  obtain ⟨pa, hpa⟩ := hE.ptr
  have hk : k % 9 = 0 ∨ k % 9 = 1 ∨ k % 9 = 2 ∨ k % 9 = 3 ∨ k % 9 = 4 ∨ k % 9 = 5 ∨ k % 9 = 6 ∨ k % 9 = 7 ∨ k % 9 = 8 := by omega
  have hS : ∀ i, no i → i < w.heap.size := fun _ q => q.elim
  have fin : ∀ {w2 w' : World}, Turn no (Rw w k a b) w2 → Turn (fun i => i = w.heap.size + 1) w2 w' → ∃ vB, Ending.returned (.agg #[.int .u64 0, .slice none 0 0]) = .returned (.agg #[.int .u64 0, vB]) ∧ Bs w' vB [] ∧ (∀ g, vB.ownBlock = some g → w.heap.size ≤ g) ∧ Turn no w w' :=
    fun l l' => ⟨_, rfl, nil_bs _, fun g q => (by cases q), back_no l l'⟩
  rcases hk with hk | hk | hk | hk | hk | hk | hk | hk | hk
  · refine (read0 w rv pa hpa k a b no (fun _ => True) 0 (by omega) hS ((rbyte_err _ _ e0 hE h0).mono (fun e w' q => ⟨q.1, trivial, q.2⟩)) hk).mono ?_
    rintro e w' ⟨rfl, w2, _, l, l'⟩
    exact fin l l'
  · refine (read1f w rv pa hpa k a b no (fun _ => True) hS ((rbool_err _ _ e0 hE h0).mono (fun e w' q => ⟨q.1, trivial, q.2⟩)) hk).mono ?_
    rintro e w' ⟨rfl, w2, _, l, l'⟩
    exact fin l l'
  · refine (read2 w rv pa hpa k a b no (fun _ => True) 0 (by omega) hS ((ru32_err _ _ e0 hE h0).mono (fun e w' q => ⟨q.1, trivial, q.2⟩)) hk).mono ?_
    rintro e w' ⟨rfl, w2, _, l, l'⟩
    exact fin l l'
  · refine (read3 w rv pa hpa k a b no (fun _ => True) 0 hS ((ru64_err _ _ e0 hE h0).mono (fun e w' q => ⟨q.1, trivial, q.2⟩)) hk).mono ?_
    rintro e w' ⟨rfl, w2, _, l, l'⟩
    exact fin l l'
  · refine (read4 w rv pa hpa k a b no (fun _ => True) 0 hS ((rvar_err _ _ e0 hE h0).mono (fun e w' q => ⟨q.1, trivial, q.2⟩)) hk).mono ?_
    rintro e w' ⟨rfl, w2, _, l, l'⟩
    exact fin l l'
  · refine (read5 w rv pa hpa k a b no (fun _ => True) none 0 0 hS ((rraw_err _ _ _ e0 hE h0).mono (fun e w' q => ⟨q.1, trivial, q.2⟩)) hk).mono ?_
    rintro e w' ⟨rfl, w2, _, l, l'⟩
    exact fin l l'
  · refine (read6 w rv pa hpa k a b no (fun _ => True) none 0 0 hS ((rbytes_err _ _ _ e0 hE h0).mono (fun e w' q => ⟨q.1, trivial, q.2⟩)) hk).mono ?_
    rintro e w' ⟨rfl, w2, _, l, l'⟩
    exact fin l l'
  · refine (read7 w rv pa hpa k a b no (fun _ => True) ByteArray.empty (Nat.zero_le _) hS ((rtext_err _ _ _ e0 hE h0).mono (fun e w' q => ⟨q.1, trivial, q.2⟩)) hk).mono ?_
    rintro e w' ⟨v, g, rfl, w2, w3, _, l, l3, hb, hg, hgs, l'⟩
    have hs2 := l.size
    rw [Rw.size] at hs2
    exact ⟨_, rfl, hb.turn l' (fun g' q r => by rw [hg] at q; cases q; omega), fun g' q => by rw [hg] at q; cases q; omega, back_no (l.then_no l3) l'⟩
  · refine (read8 w rv pa hpa k a b no (fun _ => True) 0 (by omega) hS ((rcount_err _ _ _ _ e0 hE h0).mono (fun e w' q => ⟨q.1, trivial, q.2⟩)) hk).mono ?_
    rintro e w' ⟨rfl, w2, _, l, l'⟩
    exact fin l l'

theorem read_any (w : World) (p : Nat) (v : Value) (bs : List UInt8) (i : Nat) (e0 : Int) (k a b : Int) (ha : a < 9223372036854775808) (hb : b < 9223372036854775808) (hle : bs.length ≤ 140737488355328) (h : Rd w p v bs i e0) :
    Calls Try.prog 20 #[.pointer (some ⟨p, 0, none⟩), .agg #[.int .i64 k, .int .i64 a, .int .i64 b]] w (Got w p v bs (rgets bs i e0 k a b)) := by
  unfold rgets
  by_cases he : e0 = 0
  · subst he
    rw [if_pos rfl]
    exact read_made w p v bs i k a b ha hb hle h
  · rw [if_neg he]
    refine (read_errs w _ k a b e0 h.errs (by simpa using he)).mono ?_
    rintro e w' ⟨vB, rfl, k1, k2, k3⟩
    exact ⟨vB, rfl, k1, k2, h.turn_no k3, k3.of_no⟩

/-- What End answers. -/
def rend (bs : List UInt8) (i : Nat) (e0 : Int) : Int := if e0 = 0 then (if i < bs.length then 13 else 0) else e0

theorem end_any (w : World) (p : Nat) (v : Value) (bs : List UInt8) (i : Nat) (e0 : Int) (h : Rd w p v bs i e0) :
    Calls Try.prog 18 #[.pointer (some ⟨p, 0, none⟩)] w fun e w' => e = .returned (.int .i64 (rend bs i e0)) ∧ ∃ n, w' = w.drewN n := by
  unfold rend
  by_cases he : e0 = 0
  · subst he
    rw [if_pos rfl]
    exact end_made w p v bs i h
  · rw [if_neg he]
    refine (end_err w _ e0 h.errs (by simpa using he)).mono ?_
    rintro e w' ⟨rfl, rfl⟩
    exact ⟨rfl, 0, rfl⟩

/-- A list of reads, as it lies in memory. -/
def Gs (w : World) (v : Value) (gs : List (Int × Int × Int)) : Prop :=
  (v = .slice none 0 0 ∧ gs = []) ∨ ∃ a cap, v = .slice (some a) gs.length cap ∧ gs.length ≤ cap ∧ cap ≤ maxLen ∧
    ∀ j g, gs[j]? = some g → w.cell? (a.add (j * 3)) = some (.int .i64 g.1) ∧ w.cell? (a.add (j * 3 + 1)) = some (.int .i64 g.2.1) ∧ w.cell? (a.add (j * 3 + 2)) = some (.int .i64 g.2.2) ∧ g.2.1 < 9223372036854775808 ∧ g.2.2 < 9223372036854775808

theorem Gs.slice {w : World} {v : Value} {gs : List (Int × Int × Int)} (h : Gs w v gs) : ∃ a cap, v = .slice a gs.length cap := by
  rcases h with ⟨rfl, rfl⟩ | ⟨a, cap, rfl, _⟩
  · exact ⟨none, 0, rfl⟩
  · exact ⟨some a, cap, rfl⟩
theorem Gs.le {w : World} {v : Value} {gs : List (Int × Int × Int)} (h : Gs w v gs) : gs.length ≤ maxLen := by
  rcases h with ⟨_, rfl⟩ | ⟨_, _, _, h1, h2, _⟩
  · exact Nat.zero_le _
  · omega
theorem Gs.at {w : World} {v : Value} {gs : List (Int × Int × Int)} (h : Gs w v gs) (hp : 0 < gs.length) :
    ∃ b off cap, v = .slice (some ⟨b, off, none⟩) gs.length cap ∧ gs.length ≤ cap ∧ ∀ j g, gs[j]? = some g → w.cell? ⟨b, off + j * 3, none⟩ = some (.int .i64 g.1) ∧ w.cell? ⟨b, off + j * 3 + 1, none⟩ = some (.int .i64 g.2.1) ∧ w.cell? ⟨b, off + j * 3 + 2, none⟩ = some (.int .i64 g.2.2) ∧ g.2.1 < 9223372036854775808 ∧ g.2.2 < 9223372036854775808 := by
  rcases h with ⟨_, rfl⟩ | ⟨⟨b, off, spot⟩, cap, rfl, h1, _, h3⟩
  · simp at hp
  · have hs : spot = none := by
      have := World.cell?_spot (h3 0 gs[0] (by simp [hp])).1
      simpa [Addr.add] using this
    subst hs
    refine ⟨b, off, cap, rfl, h1, fun j g hg => ?_⟩
    have := h3 j g hg
    rw [Addr.add_lit, Addr.add_lit, Addr.add_lit] at this
    simpa [Nat.add_assoc] using this
end Go.Proofs.Ytfjdojodbhmmaaa
