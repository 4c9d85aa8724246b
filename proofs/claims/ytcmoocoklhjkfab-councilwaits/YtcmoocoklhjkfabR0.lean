/- Renew: plain. -/
import Derived.Test.YtcmoocoklhjkfabC0
namespace Go.Proofs.Ytcmoocoklhjkfab
open Go.RowKit
set_option linter.unusedVariables false

def sumP : List Mb → Int
  | [] => 0
  | m :: r => m.pr + sumP r
def qS (n : Int) : List Mb → Int
  | [] => 0
  | m :: r => m.pr.tdiv n + qS n r
def rS (n : Int) : List Mb → Int
  | [] => 0
  | m :: r => m.pr.tmod n + rS n r
def fS (n : Int) : List Mb → Int
  | [] => 0
  | m :: r => m.pr / n + fS n r
def gS (n : Int) : List Mb → Int
  | [] => 0
  | m :: r => m.pr % n + gS n r
theorem qr_sum (n : Int) (l : List Mb) : n * qS n l + rS n l = sumP l := by
  induction l with
  | nil => simp [qS, rS, sumP]
  | cons m r ih =>
    simp only [qS, rS, sumP]
    rw [← ih, Int.mul_add]
    have := Int.mul_tdiv_add_tmod m.pr n
    omega
theorem fg_sum (n : Int) (l : List Mb) : n * fS n l + gS n l = sumP l := by
  induction l with
  | nil => simp [fS, gS, sumP]
  | cons m r ih =>
    simp only [fS, gS, sumP]
    rw [← ih, Int.mul_add]
    have := Int.mul_ediv_add_emod m.pr n
    omega
theorem div_of (n q r s : Int) (hn : 0 < n) (h : n * q + r = s) (h0 : 0 ≤ r) (h1 : r < n) : s / n = q :=
  ((Int.ediv_emod_unique hn).2 ⟨by omega, h0, h1⟩).1
theorem tmod_lt (x n : Int) (hn : 0 < n) : -n < x.tmod n ∧ x.tmod n < n := by
  have := Int.natAbs_tmod x n
  have h2 := Nat.mod_lt x.natAbs (y := n.natAbs) (by omega)
  omega
/-- The program's average. -/
theorem avg_prog (n : Int) (hn : 0 < n) (l : List Mb) : qS n l + (rS n l).tdiv n + (if (rS n l).tmod n < 0 then -1 else 0) = sumP l / n := by
  have h := qr_sum n l
  have h2 := Int.mul_tdiv_add_tmod (rS n l) n
  have h3 := tmod_lt (rS n l) n hn
  symm
  split
  · refine div_of n _ ((rS n l).tmod n + n) _ hn ?_ (by omega) (by omega)
    rw [Int.mul_add, Int.mul_add]
    omega
  · refine div_of n _ ((rS n l).tmod n) _ hn ?_ (by omega) (by omega)
    rw [Int.mul_add, Int.mul_add]
    omega
theorem gS_nonneg (n : Int) (hn : 0 < n) (l : List Mb) : 0 ≤ gS n l := by
  induction l with
  | nil => simp [gS]
  | cons m r ih =>
    have := Int.emod_nonneg m.pr (Int.ne_of_gt hn)
    simp only [gS]
    omega
/-- The document's average. -/
theorem avg_doc (n : Int) (hn : 0 < n) (l : List Mb) : fS n l + gS n l / n = sumP l / n := by
  have h := fg_sum n l
  symm
  rw [← h, Int.add_comm (n * fS n l), Int.add_mul_ediv_left _ _ (Int.ne_of_gt hn)]
  omega

/-- Priorities within B. -/
def Abs (B : Nat) (l : List Mb) : Prop := ∀ m ∈ l, m.pr.natAbs ≤ B
theorem qS_take_succ (n : Int) (l : List Mb) (k : Nat) (m : Mb) (h : l[k]? = some m) : qS n (l.take (k + 1)) = qS n (l.take k) + m.pr.tdiv n := by
  induction l generalizing k with
  | nil => simp at h
  | cons x r ih =>
    cases k with
    | zero => simp at h; subst h; simp [qS]
    | succ k =>
      have := ih k (by simpa using h)
      simp only [List.take_succ_cons, qS]
      omega
theorem rS_take_succ (n : Int) (l : List Mb) (k : Nat) (m : Mb) (h : l[k]? = some m) : rS n (l.take (k + 1)) = rS n (l.take k) + m.pr.tmod n := by
  induction l generalizing k with
  | nil => simp at h
  | cons x r ih =>
    cases k with
    | zero => simp at h; subst h; simp [rS]
    | succ k =>
      have := ih k (by simpa using h)
      simp only [List.take_succ_cons, rS]
      omega
theorem fS_take_succ (n : Int) (l : List Mb) (k : Nat) (m : Mb) (h : l[k]? = some m) : fS n (l.take (k + 1)) = fS n (l.take k) + m.pr / n := by
  induction l generalizing k with
  | nil => simp at h
  | cons x r ih =>
    cases k with
    | zero => simp at h; subst h; simp [fS]
    | succ k =>
      have := ih k (by simpa using h)
      simp only [List.take_succ_cons, fS]
      omega
theorem gS_take_succ (n : Int) (l : List Mb) (k : Nat) (m : Mb) (h : l[k]? = some m) : gS n (l.take (k + 1)) = gS n (l.take k) + m.pr % n := by
  induction l generalizing k with
  | nil => simp at h
  | cons x r ih =>
    cases k with
    | zero => simp at h; subst h; simp [gS]
    | succ k =>
      have := ih k (by simpa using h)
      simp only [List.take_succ_cons, gS]
      omega
/-- How great the sums of the quotients may be. -/
theorem qS_abs (B n : Nat) (hn : 0 < n) (l : List Mb) (h : Abs B l) : (qS n l).natAbs ≤ l.length * (B / n) := by
  induction l with
  | nil => simp [qS]
  | cons m r ih =>
    have h1 := ih (fun x hx => h x (by simp [hx]))
    have h2 := h m (by simp)
    have h3 : (m.pr.tdiv n).natAbs ≤ B / n := by
      rw [Int.natAbs_tdiv]
      exact Nat.div_le_div_right h2
    simp only [qS, List.length_cons, Nat.add_mul]
    omega
theorem rS_abs (n : Nat) (hn : 0 < n) (hb : n ≤ 64) (l : List Mb) : (rS n l).natAbs ≤ l.length * 63 := by
  induction l with
  | nil => simp [rS]
  | cons m r ih =>
    have := tmod_lt m.pr n (by omega)
    simp only [rS, List.length_cons, Nat.add_mul]
    omega
theorem fS_abs (B n : Nat) (hn : 0 < n) (l : List Mb) (h : Abs B l) : (fS n l).natAbs ≤ l.length * (B / n + 1) := by
  induction l with
  | nil => simp [fS]
  | cons m r ih =>
    have h1 := ih (fun x hx => h x (by simp [hx]))
    have h2 := h m (by simp)
    have h3 : (m.pr / (n : Int)).natAbs ≤ B / n + 1 := by
      have a1 := Int.mul_ediv_add_emod m.pr n
      have a2 := Int.emod_nonneg m.pr (show (n : Int) ≠ 0 by omega)
      have a3 := Int.emod_lt_of_pos m.pr (show (0 : Int) < n by omega)
      have b1 := Nat.div_add_mod B n
      have b2 := Nat.mod_lt B hn
      rcases Int.lt_or_le (m.pr / (n : Int)) 0 with q | q
      · have : (n : Int) * (-(m.pr / (n : Int))) ≤ (n : Int) * ((B / n + 1 : Nat) : Int) + (n : Int) - 1 := by
          have e1 : (n : Int) * (-(m.pr / (n : Int))) = -((n : Int) * (m.pr / (n : Int))) := by rw [Int.mul_neg]
          have e2 : (n : Int) * ((B / n + 1 : Nat) : Int) = ((n * (B / n) : Nat) : Int) + n := by rw [Int.natCast_add, Int.mul_add, Int.natCast_mul]; simp
          omega
        have h4 : -(m.pr / (n : Int)) ≤ ((B / n + 1 : Nat) : Int) := by
          apply Int.le_of_lt_add_one
          refine Int.lt_of_mul_lt_mul_left (a := (n : Int)) ?_ (by omega)
          rw [Int.mul_add]
          omega
        omega
      · have h4 : m.pr / (n : Int) ≤ ((B / n : Nat) : Int) := by
          rw [Int.natCast_ediv]
          exact Int.ediv_le_ediv (by omega) (by omega)
        omega
    simp only [fS, List.length_cons, Nat.add_mul]
    omega
theorem gS_le (n : Nat) (hn : 0 < n) (hb : n ≤ 64) (l : List Mb) : gS n l ≤ l.length * 63 := by
  induction l with
  | nil => simp [gS]
  | cons m r ih =>
    have := Int.emod_lt_of_pos m.pr (show (0 : Int) < n by omega)
    simp only [gS, List.length_cons]
    omega
theorem Abs.take {B : Nat} {l : List Mb} (h : Abs B l) (k : Nat) : Abs B (l.take k) := fun m hm => h m (List.mem_of_mem_take hm)

/-- The greatest and the least priority of the first k, the first one's too. -/
def hiK (l : List Mb) : Nat → Int
  | 0 => (l.getD 0 mb0).pr
  | k + 1 => max (hiK l k) (l.getD k mb0).pr
def loK (l : List Mb) : Nat → Int
  | 0 => (l.getD 0 mb0).pr
  | k + 1 => min (loK l k) (l.getD k mb0).pr
theorem getD_some {l : List Mb} {k : Nat} {m : Mb} (h : l[k]? = some m) : l.getD k mb0 = m := by simp [List.getD, h]
theorem hiK_ge (l : List Mb) (k j : Nat) (m : Mb) (hj : j < k) (hm : l[j]? = some m) : m.pr ≤ hiK l k ∧ loK l k ≤ m.pr := by
  induction k with
  | zero => omega
  | succ k ih =>
    rw [hiK, loK]
    rcases Nat.lt_or_ge j k with q | q
    · have := ih q
      omega
    · have e : j = k := by omega
      subst e
      rw [getD_some hm]
      omega
theorem hiK_mem (l : List Mb) (k : Nat) (h0 : 0 < l.length) (hk : k ≤ l.length) : (∃ m ∈ l, hiK l k = m.pr) ∧ ∃ m ∈ l, loK l k = m.pr := by
  have hz : ∃ m, l[0]? = some m := ⟨l[0], List.getElem?_eq_getElem h0⟩
  obtain ⟨z, hz⟩ := hz
  induction k with
  | zero =>
    rw [hiK, loK, getD_some hz]
    exact ⟨⟨z, List.mem_of_getElem? hz, rfl⟩, z, List.mem_of_getElem? hz, rfl⟩
  | succ k ih =>
    obtain ⟨⟨a, ha, ea⟩, b, hb, eb⟩ := ih (by omega)
    obtain ⟨x, hx⟩ : ∃ x, l[k]? = some x := ⟨l[k], List.getElem?_eq_getElem (by omega)⟩
    rw [hiK, loK, getD_some hx]
    have hxm := List.mem_of_getElem? hx
    constructor
    · rcases Int.le_total (hiK l k) x.pr with q | q
      · exact ⟨x, hxm, by omega⟩
      · exact ⟨a, ha, by omega⟩
    · rcases Int.le_total (loK l k) x.pr with q | q
      · exact ⟨b, hb, by omega⟩
      · exact ⟨x, hxm, by omega⟩
/-- How far apart they are. -/
def apartN (l : List Mb) : Nat := (hiK l l.length - loK l l.length).toNat
/-- By what they are divided. -/
def rN (d t2 : Nat) : Nat := (d - 1) / t2 + 1
def divM (r : Nat) (m : Mb) : Mb := { m with pr := m.pr.tdiv r }
def narr (t2 : Nat) (l : List Mb) : List Mb := if apartN l ≤ t2 then l else l.map (divM (rN (apartN l) t2))
def subM (a : Int) (m : Mb) : Mb := { m with pr := m.pr - a }
def cent (l : List Mb) : List Mb := l.map (subM (sumP l / l.length))
theorem rN_doc (d t2 : Nat) (hd : t2 < d) (ht : 0 < t2) : (if d % t2 = 0 then d / t2 else d / t2 + 1) = rN d t2 := by
  unfold rN
  have h1 := Nat.div_add_mod d t2
  have h2 := Nat.mod_lt d ht
  split
  · rename_i h
    have e : d - 1 = t2 * (d / t2 - 1) + (t2 - 1) := by
      have hq : 1 ≤ d / t2 := Nat.div_pos (Nat.le_of_lt hd) ht
      have : t2 * (d / t2 - 1) = t2 * (d / t2) - t2 := by rw [Nat.mul_sub, Nat.mul_one]
      have h3 : t2 ≤ t2 * (d / t2) := Nat.le_mul_of_pos_right _ (by omega)
      omega
    have hq : 1 ≤ d / t2 := Nat.div_pos (Nat.le_of_lt hd) ht
    have e2 : (d - 1) / t2 = d / t2 - 1 := by
      rw [e, Nat.mul_add_div ht, Nat.div_eq_of_lt (show t2 - 1 < t2 by omega)]
      omega
    omega
  · have e : d - 1 = t2 * (d / t2) + (d % t2 - 1) := by omega
    have e2 : (d - 1) / t2 = d / t2 := by
      rw [e, Nat.mul_add_div ht, Nat.div_eq_of_lt (show d % t2 - 1 < t2 by omega)]
      omega
    omega
theorem rN_mul (d t2 : Nat) (ht : 0 < t2) : d ≤ t2 * rN d t2 := by
  unfold rN
  have h1 := Nat.div_add_mod (d - 1) t2
  have h2 := Nat.mod_lt (d - 1) ht
  rw [Nat.mul_add]
  omega
theorem rN_le (d t2 : Nat) (ht : 0 < t2) : rN d t2 ≤ d + 1 := by
  unfold rN
  have := Nat.div_le_self (d - 1) t2
  omega
end Go.Proofs.Ytcmoocoklhjkfab
