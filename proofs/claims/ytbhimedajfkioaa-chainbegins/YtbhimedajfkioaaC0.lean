/- Members, totals, what is wrong with a council: plain. -/
import Derived.WalkKit
namespace Go.Proofs.Ytbhimedajfkioaa
open Go.RowKit
set_option linter.unusedVariables false

structure Mb where
  ad : Nat
  pw : Nat
  pr : Int

def Mb.ok (m : Mb) : Prop := m.ad < 18446744073709551616 ∧ m.pw < 18446744073709551616 ∧ -9223372036854775808 ≤ m.pr ∧ m.pr < 9223372036854775808

/-- A member's cells. -/
def mbC (m : Mb) : List Value := [.int .u64 m.ad, .int .u64 m.pw, .int .i64 m.pr]

def mb0 : Mb := ⟨0, 0, 0⟩

def top : Nat := 1152921504606846975

def scan : Nat → List Mb → Int
  | _, [] => 0
  | h, m :: r => if m.ad = 0 then 85 else if m.ad ≤ h then 52 else if m.pw = 0 ∨ top < m.pw then 50 else scan m.ad r
def tot : List Mb → Nat
  | [] => 0
  | m :: r => m.pw + tot r
def weighE (l : List Mb) : Int := if l.length = 0 then 53 else if 64 < l.length then 4 else if scan 0 l ≠ 0 then scan 0 l else if top < tot l then 51 else 0
def weighT (l : List Mb) : Nat := if weighE l = 0 then tot l else 0
theorem weighT_ok (l : List Mb) (h : weighE l = 0) : weighT l = tot l := by rw [weighT, if_pos h]
theorem weighT_no (l : List Mb) {e : Int} (h : weighE l = e) (he : e ≠ 0) : (0 : Int) = (weighT l : Int) := by rw [weighT, if_neg (by rw [h]; exact he)]; rfl
theorem ret2_eq {a b c d : Int} (h1 : a = b) (h2 : c = d) : Ending.returned (.tuple #[.int .u64 a, .int .i64 c]) = Ending.returned (.tuple #[.int .u64 b, .int .i64 d]) := by rw [h1, h2]
theorem ret_i {k : IntKind} {a b : Int} (h : a = b) : Ending.returned (.int k a) = Ending.returned (.int k b) := by rw [h]
def wideB (t : Nat) (m : Mb) : Bool := decide (m.pr < -(7 * (t : Int))) || decide (7 * (t : Int) < m.pr)
def soundE (l : List Mb) : Int := if weighE l ≠ 0 then weighE l else if l.any (wideB (tot l)) then 2 else 0

def soundT (l : List Mb) : Nat := if soundE l = 0 then tot l else 0
theorem soundT_ok (l : List Mb) (h : soundE l = 0) : soundT l = tot l := by rw [soundT, if_pos h]
theorem soundT_no (l : List Mb) {e : Int} (h : soundE l = e) (he : e ≠ 0) : (0 : Int) = (soundT l : Int) := by rw [soundT, if_neg (by rw [h]; exact he)]; rfl
theorem sound_weigh (l : List Mb) (h : weighE l ≠ 0) : soundE l = weighE l := by rw [soundE, if_pos h]
theorem sound_wide (l : List Mb) (h : weighE l = 0) (m : Mb) (hm : m ∈ l) (hw : wideB (tot l) m = true) : soundE l = 2 := by
  rw [soundE, if_neg (by omega), if_pos (List.any_eq_true.2 ⟨m, hm, hw⟩)]
theorem sound_end (l : List Mb) (h : weighE l = 0) (hw : ∀ m ∈ l, wideB (tot l) m = false) : soundE l = 0 := by
  rw [soundE, if_neg (by omega), if_neg (by
    intro q
    obtain ⟨m, hm, q⟩ := List.any_eq_true.1 q
    rw [hw m hm] at q
    cases q)]

/-- The address ahead of place k. -/
def prev (l : List Mb) : Nat → Nat
  | 0 => 0
  | k + 1 => (l.getD k mb0).ad

theorem tot_append (a b : List Mb) : tot (a ++ b) = tot a + tot b := by
  induction a with
  | nil => simp [tot]
  | cons m a ih => simp [tot, ih]; omega
theorem tot_take_succ (l : List Mb) (k : Nat) (m : Mb) (h : l[k]? = some m) : tot (l.take (k + 1)) = tot (l.take k) + m.pw := by
  rw [List.take_add_one, h, tot_append]
  simp [tot]
theorem tot_take_le (l : List Mb) (k : Nat) : tot (l.take k) ≤ tot l := by
  have := tot_append (l.take k) (l.drop k)
  rw [List.take_append_drop] at this
  omega
theorem prev_succ (l : List Mb) (k : Nat) (m : Mb) (h : l[k]? = some m) : prev l (k + 1) = m.ad := by
  simp [prev, List.getD, h]
theorem drop_at (l : List Mb) (k : Nat) (m : Mb) (h : l[k]? = some m) : l.drop k = m :: l.drop (k + 1) := by
  obtain ⟨hk, e⟩ := List.getElem?_eq_some_iff.1 h
  rw [List.drop_eq_getElem_cons hk, e]
theorem scan_step (l : List Mb) (k : Nat) (m : Mb) (h : l[k]? = some m) (hs : scan 0 l = scan (prev l k) (l.drop k)) (h1 : ¬ m.ad = 0) (h2 : ¬ m.ad ≤ prev l k) (h3 : ¬ m.pw = 0) (h4 : ¬ top < m.pw) :
    scan 0 l = scan (prev l (k + 1)) (l.drop (k + 1)) := by
  rw [hs, drop_at l k m h, scan, if_neg h1, if_neg h2, if_neg (by omega), prev_succ l k m h]
theorem scan_85 (l : List Mb) (k : Nat) (m : Mb) (h : l[k]? = some m) (hs : scan 0 l = scan (prev l k) (l.drop k)) (h1 : m.ad = 0) : scan 0 l = 85 := by
  rw [hs, drop_at l k m h, scan, if_pos h1]
theorem scan_52 (l : List Mb) (k : Nat) (m : Mb) (h : l[k]? = some m) (hs : scan 0 l = scan (prev l k) (l.drop k)) (h1 : ¬ m.ad = 0) (h2 : m.ad ≤ prev l k) : scan 0 l = 52 := by
  rw [hs, drop_at l k m h, scan, if_neg h1, if_pos h2]
theorem scan_50 (l : List Mb) (k : Nat) (m : Mb) (h : l[k]? = some m) (hs : scan 0 l = scan (prev l k) (l.drop k)) (h1 : ¬ m.ad = 0) (h2 : ¬ m.ad ≤ prev l k) (h3 : m.pw = 0 ∨ top < m.pw) : scan 0 l = 50 := by
  rw [hs, drop_at l k m h, scan, if_neg h1, if_neg h2, if_pos h3]
theorem scan_end (l : List Mb) (hs : scan 0 l = scan (prev l l.length) (l.drop l.length)) : scan 0 l = 0 := by
  rw [hs, List.drop_length, scan]
theorem weigh_scan (l : List Mb) (h1 : l.length ≠ 0) (h2 : ¬ 64 < l.length) (h : scan 0 l ≠ 0) : weighE l = scan 0 l := by
  rw [weighE, if_neg h1, if_neg h2, if_pos h]
theorem weigh_end (l : List Mb) (h1 : l.length ≠ 0) (h2 : ¬ 64 < l.length) (h : scan 0 l = 0) : weighE l = if top < tot l then 51 else 0 := by
  rw [weighE, if_neg h1, if_neg h2, if_neg (by omega)]
theorem weigh_ok (l : List Mb) (h : weighE l = 0) : l.length ≠ 0 ∧ l.length ≤ 64 ∧ scan 0 l = 0 ∧ tot l ≤ top := by
  unfold weighE at h
  split at h
  · omega
  split at h
  · omega
  split at h
  · omega
  split at h
  · omega
  rename_i a b c d
  exact ⟨a, by omega, Decidable.not_not.1 c, by omega⟩
theorem scan_mem (l : List Mb) : ∀ h, scan h l = 0 → ∀ m ∈ l, 0 < m.ad ∧ 0 < m.pw ∧ m.pw ≤ top := by
  induction l with
  | nil => intro h hs m hm; cases hm
  | cons x r ih =>
    intro h hs m hm
    rw [scan] at hs
    split at hs
    · omega
    split at hs
    · omega
    split at hs
    · omega
    rcases List.mem_cons.1 hm with rfl | hm
    · omega
    · exact ih _ hs m hm
theorem sound_ok (l : List Mb) (h : soundE l = 0) : weighE l = 0 ∧ ∀ m ∈ l, -(7 * (tot l : Int)) ≤ m.pr ∧ m.pr ≤ 7 * (tot l : Int) := by
  unfold soundE at h
  split at h
  · rename_i hw; exact absurd h hw
  · rename_i hw
    refine ⟨Decidable.not_not.1 hw, fun m hm => ?_⟩
    split at h
    · omega
    · rename_i ha
      have ha' : ¬ wideB (tot l) m = true := fun q => ha (List.any_eq_true.2 ⟨m, hm, q⟩)
      simp [wideB] at ha'
      omega
end Go.Proofs.Ytbhimedajfkioaa
