/- Texts in one. -/
import Derived.Test.YtbhimedajfkioaaC0
import Derived.Test.YtbhimedajfkioaaGd
import Derived.Test.YtbhimedajfkioaaGc
import Derived.Test.YtbhimedajfkioaaKNewsW
/- Renew: plain. -/
namespace Go.Proofs.Ytbhimedajfkioaa
open Go.RowKit
set_option linter.unusedVariables false

def sumP : List Mb → Int
  | [] => 0
  | m :: r => m.pr + sumP r
def qS (n : Int) : List Mb → Int
  | [] => 0
  | m :: r => m.pr.tdiv n + qS n r
def rS (n : Int) : List Mb → Int
  | [] => 0
  | m :: r => m.pr.tmod n + rS n r
def fS (n : Int) : List Mb → Int
  | [] => 0
  | m :: r => m.pr / n + fS n r
def gS (n : Int) : List Mb → Int
  | [] => 0
  | m :: r => m.pr % n + gS n r
theorem qr_sum (n : Int) (l : List Mb) : n * qS n l + rS n l = sumP l := by
  induction l with
  | nil => simp [qS, rS, sumP]
  | cons m r ih =>
    simp only [qS, rS, sumP]
    rw [← ih, Int.mul_add]
    have := Int.mul_tdiv_add_tmod m.pr n
    omega
theorem fg_sum (n : Int) (l : List Mb) : n * fS n l + gS n l = sumP l := by
  induction l with
  | nil => simp [fS, gS, sumP]
  | cons m r ih =>
    simp only [fS, gS, sumP]
    rw [← ih, Int.mul_add]
    have := Int.mul_ediv_add_emod m.pr n
    omega
theorem div_of (n q r s : Int) (hn : 0 < n) (h : n * q + r = s) (h0 : 0 ≤ r) (h1 : r < n) : s / n = q :=
  ((Int.ediv_emod_unique hn).2 ⟨by omega, h0, h1⟩).1
theorem tmod_lt (x n : Int) (hn : 0 < n) : -n < x.tmod n ∧ x.tmod n < n := by
  have := Int.natAbs_tmod x n
  have h2 := Nat.mod_lt x.natAbs (y := n.natAbs) (by omega)
  omega
/-- The program's average. -/
theorem avg_prog (n : Int) (hn : 0 < n) (l : List Mb) : qS n l + (rS n l).tdiv n + (if (rS n l).tmod n < 0 then -1 else 0) = sumP l / n := by
  have h := qr_sum n l
  have h2 := Int.mul_tdiv_add_tmod (rS n l) n
  have h3 := tmod_lt (rS n l) n hn
  symm
  split
  · refine div_of n _ ((rS n l).tmod n + n) _ hn ?_ (by omega) (by omega)
    rw [Int.mul_add, Int.mul_add]
    omega
  · refine div_of n _ ((rS n l).tmod n) _ hn ?_ (by omega) (by omega)
    rw [Int.mul_add, Int.mul_add]
    omega
theorem gS_nonneg (n : Int) (hn : 0 < n) (l : List Mb) : 0 ≤ gS n l := by
  induction l with
  | nil => simp [gS]
  | cons m r ih =>
    have := Int.emod_nonneg m.pr (Int.ne_of_gt hn)
    simp only [gS]
    omega
/-- The document's average. -/
theorem avg_doc (n : Int) (hn : 0 < n) (l : List Mb) : fS n l + gS n l / n = sumP l / n := by
  have h := fg_sum n l
  symm
  rw [← h, Int.add_comm (n * fS n l), Int.add_mul_ediv_left _ _ (Int.ne_of_gt hn)]
  omega

/-- Priorities within B. -/
def Abs (B : Nat) (l : List Mb) : Prop := ∀ m ∈ l, m.pr.natAbs ≤ B
theorem qS_take_succ (n : Int) (l : List Mb) (k : Nat) (m : Mb) (h : l[k]? = some m) : qS n (l.take (k + 1)) = qS n (l.take k) + m.pr.tdiv n := by
  induction l generalizing k with
  | nil => simp at h
  | cons x r ih =>
    cases k with
    | zero => simp at h; subst h; simp [qS]
    | succ k =>
      have := ih k (by simpa using h)
      simp only [List.take_succ_cons, qS]
      omega
theorem rS_take_succ (n : Int) (l : List Mb) (k : Nat) (m : Mb) (h : l[k]? = some m) : rS n (l.take (k + 1)) = rS n (l.take k) + m.pr.tmod n := by
  induction l generalizing k with
  | nil => simp at h
  | cons x r ih =>
    cases k with
    | zero => simp at h; subst h; simp [rS]
    | succ k =>
      have := ih k (by simpa using h)
      simp only [List.take_succ_cons, rS]
      omega
theorem fS_take_succ (n : Int) (l : List Mb) (k : Nat) (m : Mb) (h : l[k]? = some m) : fS n (l.take (k + 1)) = fS n (l.take k) + m.pr / n := by
  induction l generalizing k with
  | nil => simp at h
  | cons x r ih =>
    cases k with
    | zero => simp at h; subst h; simp [fS]
    | succ k =>
      have := ih k (by simpa using h)
      simp only [List.take_succ_cons, fS]
      omega
theorem gS_take_succ (n : Int) (l : List Mb) (k : Nat) (m : Mb) (h : l[k]? = some m) : gS n (l.take (k + 1)) = gS n (l.take k) + m.pr % n := by
  induction l generalizing k with
  | nil => simp at h
  | cons x r ih =>
    cases k with
    | zero => simp at h; subst h; simp [gS]
    | succ k =>
      have := ih k (by simpa using h)
      simp only [List.take_succ_cons, gS]
      omega
/-- How great the sums of the quotients may be. -/
theorem qS_abs (B n : Nat) (hn : 0 < n) (l : List Mb) (h : Abs B l) : (qS n l).natAbs ≤ l.length * (B / n) := by
  induction l with
  | nil => simp [qS]
  | cons m r ih =>
    have h1 := ih (fun x hx => h x (by simp [hx]))
    have h2 := h m (by simp)
    have h3 : (m.pr.tdiv n).natAbs ≤ B / n := by
      rw [Int.natAbs_tdiv]
      exact Nat.div_le_div_right h2
    simp only [qS, List.length_cons, Nat.add_mul]
    omega
theorem rS_abs (n : Nat) (hn : 0 < n) (hb : n ≤ 64) (l : List Mb) : (rS n l).natAbs ≤ l.length * 63 := by
  induction l with
  | nil => simp [rS]
  | cons m r ih =>
    have := tmod_lt m.pr n (by omega)
    simp only [rS, List.length_cons, Nat.add_mul]
    omega
theorem fS_abs (B n : Nat) (hn : 0 < n) (l : List Mb) (h : Abs B l) : (fS n l).natAbs ≤ l.length * (B / n + 1) := by
  induction l with
  | nil => simp [fS]
  | cons m r ih =>
    have h1 := ih (fun x hx => h x (by simp [hx]))
    have h2 := h m (by simp)
    have h3 : (m.pr / (n : Int)).natAbs ≤ B / n + 1 := by
      have a1 := Int.mul_ediv_add_emod m.pr n
      have a2 := Int.emod_nonneg m.pr (show (n : Int) ≠ 0 by omega)
      have a3 := Int.emod_lt_of_pos m.pr (show (0 : Int) < n by omega)
      have b1 := Nat.div_add_mod B n
      have b2 := Nat.mod_lt B hn
      rcases Int.lt_or_le (m.pr / (n : Int)) 0 with q | q
      · have : (n : Int) * (-(m.pr / (n : Int))) ≤ (n : Int) * ((B / n + 1 : Nat) : Int) + (n : Int) - 1 := by
          have e1 : (n : Int) * (-(m.pr / (n : Int))) = -((n : Int) * (m.pr / (n : Int))) := by rw [Int.mul_neg]
          have e2 : (n : Int) * ((B / n + 1 : Nat) : Int) = ((n * (B / n) : Nat) : Int) + n := by rw [Int.natCast_add, Int.mul_add, Int.natCast_mul]; simp
          omega
        have h4 : -(m.pr / (n : Int)) ≤ ((B / n + 1 : Nat) : Int) := by
          apply Int.le_of_lt_add_one
          refine Int.lt_of_mul_lt_mul_left (a := (n : Int)) ?_ (by omega)
          rw [Int.mul_add]
          omega
        omega
      · have h4 : m.pr / (n : Int) ≤ ((B / n : Nat) : Int) := by
          rw [Int.natCast_ediv]
          exact Int.ediv_le_ediv (by omega) (by omega)
        omega
    simp only [fS, List.length_cons, Nat.add_mul]
    omega
theorem gS_le (n : Nat) (hn : 0 < n) (hb : n ≤ 64) (l : List Mb) : gS n l ≤ l.length * 63 := by
  induction l with
  | nil => simp [gS]
  | cons m r ih =>
    have := Int.emod_lt_of_pos m.pr (show (0 : Int) < n by omega)
    simp only [gS, List.length_cons]
    omega
theorem Abs.take {B : Nat} {l : List Mb} (h : Abs B l) (k : Nat) : Abs B (l.take k) := fun m hm => h m (List.mem_of_mem_take hm)

/-- The greatest and the least priority of the first k, the first one's too. -/
def hiK (l : List Mb) : Nat → Int
  | 0 => (l.getD 0 mb0).pr
  | k + 1 => max (hiK l k) (l.getD k mb0).pr
def loK (l : List Mb) : Nat → Int
  | 0 => (l.getD 0 mb0).pr
  | k + 1 => min (loK l k) (l.getD k mb0).pr
theorem getD_some {l : List Mb} {k : Nat} {m : Mb} (h : l[k]? = some m) : l.getD k mb0 = m := by simp [List.getD, h]
theorem hiK_ge (l : List Mb) (k j : Nat) (m : Mb) (hj : j < k) (hm : l[j]? = some m) : m.pr ≤ hiK l k ∧ loK l k ≤ m.pr := by
  induction k with
  | zero => omega
  | succ k ih =>
    rw [hiK, loK]
    rcases Nat.lt_or_ge j k with q | q
    · have := ih q
      omega
    · have e : j = k := by omega
      subst e
      rw [getD_some hm]
      omega
theorem hiK_mem (l : List Mb) (k : Nat) (h0 : 0 < l.length) (hk : k ≤ l.length) : (∃ m ∈ l, hiK l k = m.pr) ∧ ∃ m ∈ l, loK l k = m.pr := by
  have hz : ∃ m, l[0]? = some m := ⟨l[0], List.getElem?_eq_getElem h0⟩
  obtain ⟨z, hz⟩ := hz
  induction k with
  | zero =>
    rw [hiK, loK, getD_some hz]
    exact ⟨⟨z, List.mem_of_getElem? hz, rfl⟩, z, List.mem_of_getElem? hz, rfl⟩
  | succ k ih =>
    obtain ⟨⟨a, ha, ea⟩, b, hb, eb⟩ := ih (by omega)
    obtain ⟨x, hx⟩ : ∃ x, l[k]? = some x := ⟨l[k], List.getElem?_eq_getElem (by omega)⟩
    rw [hiK, loK, getD_some hx]
    have hxm := List.mem_of_getElem? hx
    constructor
    · rcases Int.le_total (hiK l k) x.pr with q | q
      · exact ⟨x, hxm, by omega⟩
      · exact ⟨a, ha, by omega⟩
    · rcases Int.le_total (loK l k) x.pr with q | q
      · exact ⟨b, hb, by omega⟩
      · exact ⟨x, hxm, by omega⟩
/-- How far apart they are. -/
def apartN (l : List Mb) : Nat := (hiK l l.length - loK l l.length).toNat
/-- By what they are divided. -/
def rN (d t2 : Nat) : Nat := (d - 1) / t2 + 1
def divM (r : Nat) (m : Mb) : Mb := { m with pr := m.pr.tdiv r }
def narr (t2 : Nat) (l : List Mb) : List Mb := if apartN l ≤ t2 then l else l.map (divM (rN (apartN l) t2))
def subM (a : Int) (m : Mb) : Mb := { m with pr := m.pr - a }
def cent (l : List Mb) : List Mb := l.map (subM (sumP l / l.length))
theorem rN_doc (d t2 : Nat) (hd : t2 < d) (ht : 0 < t2) : (if d % t2 = 0 then d / t2 else d / t2 + 1) = rN d t2 := by
  unfold rN
  have h1 := Nat.div_add_mod d t2
  have h2 := Nat.mod_lt d ht
  split
  · rename_i h
    have e : d - 1 = t2 * (d / t2 - 1) + (t2 - 1) := by
      have hq : 1 ≤ d / t2 := Nat.div_pos (Nat.le_of_lt hd) ht
      have : t2 * (d / t2 - 1) = t2 * (d / t2) - t2 := by rw [Nat.mul_sub, Nat.mul_one]
      have h3 : t2 ≤ t2 * (d / t2) := Nat.le_mul_of_pos_right _ (by omega)
      omega
    have hq : 1 ≤ d / t2 := Nat.div_pos (Nat.le_of_lt hd) ht
    have e2 : (d - 1) / t2 = d / t2 - 1 := by
      rw [e, Nat.mul_add_div ht, Nat.div_eq_of_lt (show t2 - 1 < t2 by omega)]
      omega
    omega
  · have e : d - 1 = t2 * (d / t2) + (d % t2 - 1) := by omega
    have e2 : (d - 1) / t2 = d / t2 := by
      rw [e, Nat.mul_add_div ht, Nat.div_eq_of_lt (show d % t2 - 1 < t2 by omega)]
      omega
    omega
theorem rN_mul (d t2 : Nat) (ht : 0 < t2) : d ≤ t2 * rN d t2 := by
  unfold rN
  have h1 := Nat.div_add_mod (d - 1) t2
  have h2 := Nat.mod_lt (d - 1) ht
  rw [Nat.mul_add]
  omega
theorem rN_le (d t2 : Nat) (ht : 0 < t2) : rN d t2 ≤ d + 1 := by
  unfold rN
  have := Nat.div_le_self (d - 1) t2
  omega
end Go.Proofs.Ytbhimedajfkioaa

/- average, centre of the program. -/
namespace Go.Proofs.Ytbhimedajfkioaa
open Go.RowKit
set_option linter.unusedVariables false

theorem kQ_le (B n k : Nat) (hk : k ≤ n) : k * (B / n) ≤ B := Nat.le_trans (Nat.mul_le_mul_right _ hk) (Nat.mul_div_le B n)

set_option maxRecDepth 100000 in
set_option maxHeartbeats 1000000 in
theorem average46 (w : World) (v : Value) (l : List Mb) (h : Ms w v l) (h0 : 0 < l.length) (h64 : l.length ≤ 64) (hA : Abs 8070450532247928832 l) : Calls Try.prog 115 #[v] w fun e w' => e = .returned (.int .i64 (sumP l / l.length)) ∧ Turn no w w' := by
  have havg := avg_prog (l.length : Int) (by omega) l
  obtain ⟨a, cap, rfl, h⟩ := h
  have hcells := h.cells
  clear h
  obtain ⟨n, hn⟩ : ∃ n, Hid (l.length = n) := ⟨_, rfl⟩
  have hn' : l.length = n := hn.out
  rw [hn'] at h0 h64 havg ⊢
  have HAVG : Hid (qS n l + (rS n l).tdiv n + (if (rS n l).tmod n < 0 then -1 else 0) = sumP l / n) := havg
  have hql := fun k => qS_abs 8070450532247928832 n h0 (l.take k) (hA.take k)
  have hrl := fun k => rS_abs n h0 h64 (l.take k)
  clear hn' havg
  have hn0 : ¬ (n : Int) = 0 := by omega
  have hn1 : (n : Int) ≤ 64 := by omega
  go_enter Try.func115, Try.ntmps115
  go_wp2_with fail
  go_loopw [4, 5, 13] (fun x y c wr => ∃ (k : Nat) (q r : Int), k ≤ n ∧ c = .int .i64 k ∧ x = .int .i64 q ∧ y = .int .i64 r ∧ qS n (l.take k) = q ∧ rS n (l.take k) = r ∧ Turn no w wr) (fun _ _ c _ => n - (intOf c).toNat)
  case atStart => exact ⟨0, 0, 0, by omega, rfl, rfl, rfl, by simp [qS], by simp [rS], Turn.refl _ _⟩
  case round =>
    obtain ⟨k, q, r, hk, rfl, rfl, rfl, hq, hr, T⟩ := hrel
    by_cases hlt : k < n
    · obtain ⟨m, hm⟩ : ∃ m, l[k]? = some m := ⟨l[k]'(by rw [hn.out]; exact hlt), List.getElem?_eq_getElem _⟩
      obtain ⟨b, off, rfl, c0, c1, c2⟩ := hcells k m hm
      have c0 := T.keep c0 (fun q => q)
      have c1 := T.keep c1 (fun q => q)
      have c2 := T.keep c2 (fun q => q)
      have hlt' : (k : Int) < (n : Int) := by omega
      have TA : ∀ o : Obj, Turn no w (wr.alloc o) := fun o => T.alloc o
      have HQ : Hid (qS n (l.take (k + 1)) = q + m.pr.tdiv n) := by show _ = _; rw [qS_take_succ n l k m hm, hq]
      have HR : Hid (rS n (l.take (k + 1)) = r + m.pr.tmod n) := by show _ = _; rw [rS_take_succ n l k m hm, hr]
      have ha := hA m (List.mem_of_getElem? hm)
      have b1 := hql (k + 1)
      have b2 := hrl (k + 1)
      rw [HQ.out, List.length_take, hn.out, Nat.min_eq_left (by omega)] at b1
      rw [HR.out, List.length_take, hn.out, Nat.min_eq_left (by omega)] at b2
      have b3 := kQ_le 8070450532247928832 n (k + 1) (by omega)
      have d1 : (m.pr.tdiv n).natAbs ≤ m.pr.natAbs := by rw [Int.natAbs_tdiv]; exact Nat.div_le_self _ _
      have d2 := tmod_lt m.pr n (by omega)
      generalize eqx : m.pr.tdiv (n : Int) = qx at *
      generalize erx : m.pr.tmod (n : Int) = rx at *
      have e1 : -9223372036854775808 ≤ qx := by omega
      have e2 : qx ≤ 9223372036854775807 := by omega
      have e3 : -9223372036854775808 ≤ q + qx := by omega
      have e4 : q + qx ≤ 9223372036854775807 := by omega
      have e5 : -4096 ≤ r + rx := by omega
      have e6 : r + rx ≤ 4096 := by omega
      clear hcells hm hq hr hql hrl b1 b2 b3 ha hA
      go_wp2_with fail
      go_roundw
      case rel => exact ⟨k + 1, q + qx, r + rx, by omega, by go_num, rfl, rfl, by rw [HQ.out], by rw [HR.out], TA _⟩
      case measure => simp [intOf]; omega
    · have hkn : k = n := by omega
      subst hkn
      have hlt' : ¬ (k : Int) < (k : Int) := by omega
      have b1 := hql k
      have b2 := hrl k
      rw [hq, List.length_take, hn.out, Nat.min_self] at b1
      rw [hr, List.length_take, hn.out, Nat.min_self] at b2
      have b3 := kQ_le 8070450532247928832 k k (Nat.le_refl _)
      rw [List.take_of_length_le (by rw [hn.out]; exact Nat.le_refl _)] at hq hr
      rw [hq, hr] at HAVG
      have d1 : (r.tdiv k).natAbs ≤ r.natAbs := by rw [Int.natAbs_tdiv]; exact Nat.div_le_self _ _
      generalize eqx : r.tdiv (k : Int) = rq at *
      generalize erx : r.tmod (k : Int) = rm at *
      have e3 : -9223372036854775000 ≤ q + rq := by omega
      have e4 : q + rq ≤ 9223372036854775000 := by omega
      have e1 : -9223372036854775000 ≤ rq := by omega
      have e2 : rq ≤ 9223372036854775000 := by omega
      clear hcells hq hr hql hrl b1 b2 b3 hA d1
      by_cases a1 : rm < 0
      · have HV : Hid (q + rq - 1 = sumP l / k) := by
          have := HAVG.out
          rw [if_pos a1] at this
          show _ = _
          omega
        clear HAVG
        go_wp2_with fail
        go_ret
        exact ⟨ret_i HV.out, T⟩
      · have HV : Hid (q + rq = sumP l / k) := by
          have := HAVG.out
          rw [if_neg a1] at this
          show _ = _
          omega
        clear HAVG
        go_wp2_with fail
        go_ret
        exact ⟨ret_i HV.out, T⟩

/-- What an average of priorities is. -/
theorem avg_between (l : List Mb) (lo hi : Int) (h0 : 0 < l.length) (h : ∀ m ∈ l, lo ≤ m.pr ∧ m.pr ≤ hi) : lo ≤ sumP l / l.length ∧ sumP l / l.length ≤ hi := by
  have key : ∀ r : List Mb, (∀ m ∈ r, lo ≤ m.pr ∧ m.pr ≤ hi) → lo * r.length ≤ sumP r ∧ sumP r ≤ hi * r.length := by
    intro r
    induction r with
    | nil => intro _; simp [sumP]
    | cons m r ih =>
      intro hr
      have h1 := ih (fun x hx => hr x (by simp [hx]))
      have h2 := hr m (by simp)
      simp only [sumP, List.length_cons, Int.natCast_add, Int.mul_add]
      constructor
      · have : lo * ((1 : Nat) : Int) = lo := by simp
        omega
      · have : hi * ((1 : Nat) : Int) = hi := by simp
        omega
  obtain ⟨k1, k2⟩ := key l h
  have hp : (0 : Int) < (l.length : Int) := by omega
  constructor
  · exact (Int.le_ediv_iff_mul_le hp).2 k1
  · have := Int.ediv_le_ediv hp k2
    rwa [Int.mul_ediv_cancel _ (by omega)] at this

set_option maxRecDepth 100000 in
set_option maxHeartbeats 1000000 in
theorem centre35 (w : World) (g cap : Nat) (l : List Mb) (R : Rw w g cap l) (h0 : 0 < l.length) (h64 : l.length ≤ 64) (hA : Abs 8070450532247928832 l) (hd : ∀ m ∈ l, -9223372036854775808 ≤ m.pr - sumP l / l.length ∧ m.pr - sumP l / l.length < 9223372036854775808) :
    Calls Try.prog 94 #[.slice (some ⟨g, 0, none⟩) l.length cap] w fun e w' => e = .returned (.tuple #[]) ∧ Rw w' g cap (cent l) ∧ Turn (fun b => b = g) w w' := by
  have hav := average46 w (.slice (some ⟨g, 0, none⟩) l.length cap) l ⟨_, cap, rfl, R.at⟩ h0 h64 hA
  obtain ⟨a, ha⟩ : ∃ a, Hid (sumP l / l.length = a) := ⟨_, rfl⟩
  have hce : Hid (cent l = l.map (subM a)) := by show cent l = _; rw [cent, ha.out]
  rw [show sumP l / l.length = a from ha.out] at hav hd
  obtain ⟨n, hn⟩ : ∃ n, Hid (l.length = n) := ⟨_, rfl⟩
  have hn' : l.length = n := hn.out
  rw [hn'] at h0 h64 hav ⊢
  clear hn'
  go_enter Try.func94, Try.ntmps94
  go_wp2_with fail
  refine hav.mono ?_
  rintro e w1 ⟨rfl, T1⟩
  have R1 := R.turn_no T1
  clear hav R
  go_wp2_with fail
  go_loopw [8] (fun c wr => ∃ k : Nat, k ≤ n ∧ c = .int .i64 k ∧ Rw wr g cap (mapTo (subM a) l k) ∧ Turn (fun b => b = g) w wr) (fun c _ => n - (intOf c).toNat)
  case atStart => exact ⟨0, by omega, rfl, by rw [mapTo_zero]; exact R1, T1.of_no⟩
  case round =>
    clear R1
    obtain ⟨k, hk, rfl, R, T⟩ := hrel
    by_cases hlt : k < n
    · obtain ⟨m, hm⟩ : ∃ m, l[k]? = some m := ⟨l[k]'(by rw [hn.out]; exact hlt), List.getElem?_eq_getElem _⟩
      have hlt' : (k : Int) < (n : Int) := by omega
      obtain ⟨i1, i2⟩ := hd m (List.mem_of_getElem? hm)
      have R2 := R.set k m (mapTo_at _ l k m hm) (m.pr - a) (by omega)
      have hms := mapTo_succ (subM a) l k m hm
      rw [show subM a m = { m with pr := m.pr - a } from rfl] at hms
      rw [hms] at R2
      obtain ⟨c0, c1, c2⟩ := R.cells k m (mapTo_at _ l k m hm)
      have f2 := R.frozen (k * 3 + 2)
      have T2 := T.setCell (p := ⟨g, k * 3 + 2, none⟩) (fun _ => rfl) (.int .i64 (m.pr - a))
      have i2' : m.pr - a ≤ 9223372036854775807 := by omega
      clear hm R hms hd hA i2
      go_wp2_with fail
      go_roundw
      case rel => exact ⟨k + 1, by omega, by go_num, R2, T2⟩
      case measure => simp [intOf]; omega
    · have hkn : k = n := by omega
      subst hkn
      have hlt' : ¬ (k : Int) < (k : Int) := by omega
      rw [mapTo_all _ l k hn.out, ← hce.out] at R
      clear hd hA
      go_wp2_with fail
      go_end0
      exact ⟨rfl, R, T⟩
end Go.Proofs.Ytbhimedajfkioaa

/- floor, centred of the document. -/
namespace Go.Proofs.Ytbhimedajfkioaa
open Go.RowKit
set_option linter.unusedVariables false

theorem ret22_eq {a b c d : Int} (h1 : a = b) (h2 : c = d) : Ending.returned (.tuple #[.int .i64 a, .int .i64 c]) = Ending.returned (.tuple #[.int .i64 b, .int .i64 d]) := by rw [h1, h2]
theorem ediv_of (n q r s : Int) (hn : 0 < n) (h : n * q + r = s) (h0 : 0 ≤ r) (h1 : r < n) : s / n = q ∧ s % n = r := (Int.ediv_emod_unique hn).2 ⟨by omega, h0, h1⟩

set_option maxRecDepth 100000 in
set_option maxHeartbeats 1000000 in
theorem floor48 (w : World) (p : Int) (n : Nat) (h0 : 0 < n) (h64 : n ≤ 64) (hp : p.natAbs ≤ 8070450532247928832) : Calls Try.prog 96 #[.int .i64 p, .int .i64 n] w fun e w' => e = .returned (.tuple #[.int .i64 (p / n), .int .i64 (p % n)]) ∧ w' = w := by
  have hn0 : ¬ (n : Int) = 0 := by omega
  have hn1 : (n : Int) ≤ 64 := by omega
  have h2 := Int.mul_tdiv_add_tmod p n
  have h3 := tmod_lt p n (by omega)
  have d1 : (p.tdiv n).natAbs ≤ p.natAbs := by rw [Int.natAbs_tdiv]; exact Nat.div_le_self _ _
  generalize eqx : p.tdiv (n : Int) = qx at *
  generalize erx : p.tmod (n : Int) = rx at *
  have e1 : -9223372036854775000 ≤ qx := by omega
  have e2 : qx ≤ 9223372036854775000 := by omega
  by_cases a1 : rx < 0
  · have HV : Hid (p / n = qx - 1 ∧ p % n = rx + n) := ediv_of n (qx - 1) (rx + n) p (by omega) (by rw [Int.mul_sub]; omega) (by omega) (by omega)
    have e3 : -64 ≤ rx + n := by omega
    have e4 : rx + n ≤ 64 := by omega
    clear h2 d1 hp
    go_enter Try.func96, Try.ntmps96
    go_wp2_with fail
    go_ret2
    exact ⟨ret22_eq HV.out.1.symm HV.out.2.symm, rfl⟩
  · have HV : Hid (p / n = qx ∧ p % n = rx) := ediv_of n qx rx p (by omega) (by omega) (by omega) (by omega)
    clear h2 d1 hp
    go_enter Try.func96, Try.ntmps96
    go_wp2_with fail
    go_ret2
    exact ⟨ret22_eq HV.out.1.symm HV.out.2.symm, rfl⟩

set_option maxRecDepth 100000 in
set_option maxHeartbeats 1000000 in
theorem centred43 (w : World) (g cap : Nat) (l : List Mb) (R : Rw w g cap l) (h0 : 0 < l.length) (h64 : l.length ≤ 64) (hA : Abs 8070450532247928832 l) (hd : ∀ m ∈ l, -9223372036854775808 ≤ m.pr - sumP l / l.length ∧ m.pr - sumP l / l.length < 9223372036854775808) :
    Calls Try.prog 75 #[.slice (some ⟨g, 0, none⟩) l.length cap] w fun e w' => e = .returned (.tuple #[]) ∧ Rw w' g cap (cent l) ∧ Turn (fun b => b = g) w w' := by
  have havg := avg_doc (l.length : Int) (by omega) l
  obtain ⟨a, ha⟩ : ∃ a, Hid (sumP l / l.length = a) := ⟨_, rfl⟩
  have hce : Hid (cent l = l.map (subM a)) := by show cent l = _; rw [cent, ha.out]
  rw [show sumP l / l.length = a from ha.out] at hd havg
  obtain ⟨n, hn⟩ : ∃ n, Hid (l.length = n) := ⟨_, rfl⟩
  have hn' : l.length = n := hn.out
  rw [hn'] at h0 h64 havg ⊢
  have HAVG : Hid (fS n l + gS n l / n = a) := havg
  clear hn' havg
  have hql := fun k => fS_abs 8070450532247928832 n h0 (l.take k) (hA.take k)
  have hrl := fun k => gS_le n h0 h64 (l.take k)
  have hrn := fun k => gS_nonneg n (by omega) (l.take k)
  have hn0 : ¬ (n : Int) = 0 := by omega
  have hn1 : (n : Int) ≤ 64 := by omega
  go_enter Try.func75, Try.ntmps75
  go_wp2_with fail
  go_loop [3, 4, 5] (fun x y c => ∃ (k : Nat) (q r : Int), k ≤ n ∧ c = .int .i64 k ∧ x = .int .i64 q ∧ y = .int .i64 r ∧ fS n (l.take k) = q ∧ gS n (l.take k) = r) (fun _ _ c => n - (intOf c).toNat)
  case atStart => exact ⟨0, 0, 0, by omega, rfl, rfl, rfl, by simp [fS], by simp [gS]⟩
  case round =>
    obtain ⟨k, q, r, hk, rfl, rfl, rfl, hq, hr⟩ := hrel
    by_cases hlt : k < n
    · obtain ⟨m, hm⟩ : ∃ m, l[k]? = some m := ⟨l[k]'(by rw [hn.out]; exact hlt), List.getElem?_eq_getElem _⟩
      obtain ⟨c0, c1, c2⟩ := R.cells k m hm
      have hlt' : (k : Int) < (n : Int) := by omega
      have HQ : Hid (fS n (l.take (k + 1)) = q + m.pr / n) := by show _ = _; rw [fS_take_succ n l k m hm, hq]
      have HR : Hid (gS n (l.take (k + 1)) = r + m.pr % n) := by show _ = _; rw [gS_take_succ n l k m hm, hr]
      have ha := hA m (List.mem_of_getElem? hm)
      have hfl := fun W => floor48 W m.pr n h0 h64 ha
      have b1 := hql (k + 1)
      have b2 := hrl (k + 1)
      have b4 := hrn (k + 1)
      rw [HQ.out, List.length_take, hn.out, Nat.min_eq_left (by omega)] at b1
      rw [HR.out, List.length_take, hn.out, Nat.min_eq_left (by omega)] at b2
      rw [HR.out] at b4
      have b3 := kQ_le 8070450532247928832 n (k + 1) (by omega)
      have b5 : (k + 1) * (8070450532247928832 / n + 1) = (k + 1) * (8070450532247928832 / n) + (k + 1) := by rw [Nat.mul_add, Nat.mul_one]
      generalize eqx : m.pr / (n : Int) = qx at *
      generalize erx : m.pr % (n : Int) = rx at *
      have e3 : -9223372036854775808 ≤ q + qx := by omega
      have e4 : q + qx ≤ 9223372036854775807 := by omega
      have e5 : -4096 ≤ r + rx := by omega
      have e6 : r + rx ≤ 4096 := by omega
      clear hm hq hr hql hrl hrn b1 b2 b3 b4 b5 ha hA R hd
      go_wp2_with fail
      refine (hfl _).mono ?_
      rintro e w1 ⟨rfl, e1⟩
      have e1 := e1.symm
      subst e1
      clear hfl
      go_wp2_with fail
      go_round
      case rel => exact ⟨k + 1, q + qx, r + rx, by omega, by go_num, rfl, rfl, by rw [HQ.out], by rw [HR.out]⟩
      case measure => simp [intOf]; omega
    · have hkn : k = n := by omega
      subst hkn
      have hlt' : ¬ (k : Int) < (k : Int) := by omega
      have b1 := hql k
      have b2 := hrl k
      have b4 := hrn k
      rw [hq, List.length_take, hn.out, Nat.min_self] at b1
      rw [hr, List.length_take, hn.out, Nat.min_self] at b2
      rw [hr] at b4
      have b3 := kQ_le 8070450532247928832 k k (Nat.le_refl _)
      have b5 : k * (8070450532247928832 / k + 1) = k * (8070450532247928832 / k) + k := by rw [Nat.mul_add, Nat.mul_one]
      rw [List.take_of_length_le (by rw [hn.out]; exact Nat.le_refl _)] at hq hr
      rw [hq, hr] at HAVG
      have d1 : 0 ≤ r / (k : Int) := Int.ediv_nonneg b4 (by omega)
      have d2 : r / (k : Int) ≤ r := Int.ediv_le_self _ b4
      have d3 : r.tdiv (k : Int) = r / (k : Int) := Int.tdiv_eq_ediv_of_nonneg b4
      generalize eqx : r / (k : Int) = rq at *
      have HV : Hid (q + rq = a) := HAVG.out
      have e3 : -9223372036854775000 ≤ q + rq := by omega
      have e4 : q + rq ≤ 9223372036854775000 := by omega
      have e5 : rq ≤ 9223372036854775000 := by omega
      clear hq hr hql hrl hrn b1 b2 b3 b5 hA d2 HAVG
      have hqa : q + rq = a := HV.out
      rw [hqa] at e3 e4
      clear HV ha
      go_wp2_with fail
      clear hqa e5 d1 d3 eqx b4
      go_loopw [8] (fun c wr => ∃ i : Nat, i ≤ k ∧ c = .int .i64 i ∧ Rw wr g cap (mapTo (subM a) l i) ∧ Turn (fun b => b = g) w wr) (fun c _ => k - (intOf c).toNat)
      case atStart => exact ⟨0, by omega, rfl, by rw [mapTo_zero]; exact R, Turn.refl _ _⟩
      case round =>
        clear R
        obtain ⟨i, hi, rfl, R, T⟩ := hrel
        by_cases hlt2 : i < k
        · obtain ⟨m, hm⟩ : ∃ m, l[i]? = some m := ⟨l[i]'(by rw [hn.out]; exact hlt2), List.getElem?_eq_getElem _⟩
          have hlt2' : (i : Int) < (k : Int) := by omega
          obtain ⟨i1, i2⟩ := hd m (List.mem_of_getElem? hm)
          have R2 := R.set i m (mapTo_at _ l i m hm) (m.pr - a) (by omega)
          have hms := mapTo_succ (subM a) l i m hm
          rw [show subM a m = { m with pr := m.pr - a } from rfl] at hms
          rw [hms] at R2
          obtain ⟨c0, c1, c2⟩ := R.cells i m (mapTo_at _ l i m hm)
          have f2 := R.frozen (i * 3 + 2)
          have T2 := T.setCell (p := ⟨g, i * 3 + 2, none⟩) (fun _ => rfl) (.int .i64 (m.pr - a))
          have i2' : m.pr - a ≤ 9223372036854775807 := by omega
          clear hm R hms hd i2
          go_wp2_with fail
          go_roundw
          case rel => exact ⟨i + 1, by omega, by go_num, R2, T2⟩
          case measure => simp [intOf]; omega
        · have hkn : i = k := by omega
          subst hkn
          have hlt' : ¬ (i : Int) < (i : Int) := by omega
          rw [mapTo_all _ l i hn.out, ← hce.out] at R
          clear hd
          go_wp2_with fail
          go_end0
          exact ⟨rfl, R, T⟩
end Go.Proofs.Ytbhimedajfkioaa

/- drawTogether of the program. -/
namespace Go.Proofs.Ytbhimedajfkioaa
open Go.RowKit
set_option linter.unusedVariables false

theorem hiK_succ (l : List Mb) (k : Nat) (m : Mb) (h : l[k]? = some m) : hiK l (k + 1) = max (hiK l k) m.pr ∧ loK l (k + 1) = min (loK l k) m.pr := by
  rw [hiK, loK, getD_some h]
  exact ⟨rfl, rfl⟩
theorem hiK_abs (B : Nat) (l : List Mb) (h : Abs B l) (k : Nat) (h0 : 0 < l.length) (hk : k ≤ l.length) : (hiK l k).natAbs ≤ B ∧ (loK l k).natAbs ≤ B := by
  obtain ⟨⟨a, ha, ea⟩, b, hb, eb⟩ := hiK_mem l k h0 hk
  rw [ea, eb]
  exact ⟨h a ha, h b hb⟩
theorem lo_le_hi (l : List Mb) (k : Nat) : loK l k ≤ hiK l k := by
  induction k with
  | zero => rw [hiK, loK]; omega
  | succ k ih => rw [hiK, loK]; omega

theorem apart_wrap (hi lo : Int) (d : Nat) (h : lo ≤ hi) (hd : d = (hi - lo).toNat) (hb : d < 18446744073709551616) : IntKind.u64.wrap (IntKind.u64.wrap hi - IntKind.u64.wrap lo) = (d : Int) := by
  simp only [IntKind.wrap_u64]
  omega

set_option maxRecDepth 100000 in
set_option maxHeartbeats 1000000 in
theorem draw34 (w : World) (g cap t2 : Nat) (l : List Mb) (R : Rw w g cap l) (h0 : 0 < l.length) (h64 : l.length ≤ 64) (hA : Abs 8070450532247928832 l) (ht : 1 < t2) (ht2 : t2 ≤ 2305843009213693950) :
    Calls Try.prog 93 #[.slice (some ⟨g, 0, none⟩) l.length cap, .int .u64 t2] w fun e w' => e = .returned (.tuple #[]) ∧ Rw w' g cap (narr t2 l) ∧ Turn (fun b => b = g) w w' := by
  obtain ⟨z, hz⟩ : ∃ z, l[0]? = some z := ⟨l[0], List.getElem?_eq_getElem h0⟩
  obtain ⟨_, _, cz⟩ := R.cells 0 z hz
  simp only [Nat.zero_mul, Nat.zero_add] at cz
  have hz0 : hiK l 0 = z.pr := by rw [hiK, getD_some hz]
  have hz1 : loK l 0 = z.pr := by rw [loK, getD_some hz]
  have hHA := fun k hk => hiK_abs 8070450532247928832 l hA k h0 hk
  have hLH := fun k => lo_le_hi l k
  have hap : apartN l = (hiK l l.length - loK l l.length).toNat := rfl
  obtain ⟨n, hn⟩ : ∃ n, Hid (l.length = n) := ⟨_, rfl⟩
  have hn' : l.length = n := hn.out
  rw [hn'] at h0 h64 hap hHA ⊢
  clear hn'
  have h0' : (0 : Int) < (n : Int) := by omega
  have H00 : Hid (hiK l 0 = z.pr ∧ loK l 0 = z.pr) := ⟨hz0, hz1⟩
  have HAP : Hid (apartN l = (hiK l n - loK l n).toNat) := hap
  clear hz0 hz1 hap hz
  go_enter Try.func93, Try.ntmps93
  go_wp2_with fail
  go_quiet (fail)
  go_wp2_with fail
  go_loopw [4, 5, 21] (fun x y c wr => ∃ k : Nat, k ≤ n ∧ c = .int .i64 k ∧ x = .int .i64 (loK l k) ∧ y = .int .i64 (hiK l k) ∧ Turn no w wr) (fun _ _ c _ => n - (intOf c).toNat)
  case atStart => exact ⟨0, by omega, rfl, by rw [H00.out.2], by rw [H00.out.1], (Turn.refl no w).drewN _⟩
  case round =>
    obtain ⟨k, hk, rfl, rfl, rfl, T⟩ := hrel
    by_cases hlt : k < n
    · obtain ⟨m, hm⟩ : ∃ m, l[k]? = some m := ⟨l[k]'(by rw [hn.out]; exact hlt), List.getElem?_eq_getElem _⟩
      obtain ⟨c0, c1, c2⟩ := (R.turn_no T).cells k m hm
      have hlt' : (k : Int) < (n : Int) := by omega
      have TA : ∀ o : Obj, Turn no w (wr.alloc o) := fun o => T.alloc o
      have HS : Hid (hiK l (k + 1) = max (hiK l k) m.pr ∧ loK l (k + 1) = min (loK l k) m.pr) := hiK_succ l k m hm
      have hlh := hLH k
      generalize hiK l k = hi at *
      generalize loK l k = lo at *
      clear hm hA R hHA hLH cz H00
      rcases (show m.pr < lo ∧ ¬ hi < m.pr ∨ ¬ m.pr < lo ∧ hi < m.pr ∨ ¬ m.pr < lo ∧ ¬ hi < m.pr by omega) with ⟨a1, a2⟩ | ⟨a1, a2⟩ | ⟨a1, a2⟩
      all_goals
        go_wp2_with fail
        go_quiet (fail)
        go_wp2_with fail
        go_roundw
        case rel => exact ⟨k + 1, by omega, by go_num, by rw [HS.out.2]; go_num, by rw [HS.out.1]; go_num, (TA _).drewN _⟩
        case measure => simp [intOf]; omega
    · have hkn : k = n := by omega
      subst hkn
      have hlt' : ¬ (k : Int) < (k : Int) := by omega
      obtain ⟨a1, a2⟩ := hHA k (Nat.le_refl _)
      have hlh := hLH k
      have R1 := R.turn_no T
      obtain ⟨d, hd⟩ : ∃ d, Hid (apartN l = d) := ⟨_, rfl⟩
      have hdd : d = (hiK l k - loK l k).toNat := by rw [← hd.out]; exact HAP.out
      have hwr := apart_wrap (hiK l k) (loK l k) d hlh hdd (by omega)
      have hnr : Hid (narr t2 l = if d ≤ t2 then l else l.map (divM (rN d t2))) := by show narr t2 l = _; rw [narr, hd.out]
      have hdb : d ≤ 16140901064495857664 := by omega
      clear HAP
      generalize hiK l k = hi at *
      generalize loK l k = lo at *
      clear hdd hHA hLH H00 cz a1 a2 hlh
      by_cases a3 : d ≤ t2
      · have a3' : (d : Int) ≤ (t2 : Int) := by omega
        have HN : Hid (narr t2 l = l) := by show narr t2 l = l; rw [hnr.out, if_pos a3]
        clear hnr hA
        go_wp2_with fail
        first | go_end0 | refine bodyPost_ret (results_none rfl _ _ _) rfl ?_
        exact ⟨rfl, by rw [HN.out]; exact R1, T.of_no⟩
      · have a3' : ¬ (d : Int) ≤ (t2 : Int) := by omega
        have HN : Hid (narr t2 l = l.map (divM (rN d t2))) := by show narr t2 l = _; rw [hnr.out, if_neg a3]
        clear hnr
        obtain ⟨rr, hrr⟩ : ∃ rr, Hid (rN d t2 = rr) := ⟨_, rfl⟩
        rw [show rN d t2 = rr from hrr.out] at HN
        have hr0 : (d - 1) / t2 + 1 = rr := hrr.out
        have hr1 : ((d : Int) - 1) / (t2 : Int) + 1 = (rr : Int) := by
          rw [← hr0, Int.natCast_add, Int.natCast_ediv, Int.natCast_sub (by omega)]
          rfl
        have hrb : rr ≤ 8070450532247928833 := by
          have : (d - 1) / t2 ≤ (d - 1) / 2 := Nat.div_le_div_left (by omega) (by decide)
          omega
        have hr2 : (rr : Int) ≤ 8070450532247928833 := by omega
        have hr5 : 1 ≤ rr := by rw [← hr0]; exact Nat.le_add_left _ _
        have hr3 : ¬ (rr : Int) = 0 := by omega
        have ht3 : ¬ (t2 : Int) = 0 := by omega
        have hd1 : (1 : Int) ≤ (d : Int) := by omega
        have hd2 : (d : Int) ≤ 16140901064495857664 := by omega
        have hr4 : ((d : Int) - 1) / (t2 : Int) = (rr : Int) - 1 := by rw [← hr1]; exact (Int.add_sub_cancel _ _).symm
        clear hrr hr0 hr1
        go_wp2_with fail
        clear hr4 hwr hd1 hd2 ht3
        go_loopw [50] (fun c wr => ∃ i : Nat, i ≤ k ∧ c = .int .i64 i ∧ Rw wr g cap (mapTo (divM rr) l i) ∧ Turn (fun b => b = g) w wr) (fun c _ => k - (intOf c).toNat)
        case atStart => exact ⟨0, by omega, rfl, by rw [mapTo_zero]; exact R1, T.of_no⟩
        case round =>
          clear R1 T
          obtain ⟨i, hi, rfl, R, T⟩ := hrel
          by_cases hlt2 : i < k
          · obtain ⟨m, hm⟩ : ∃ m, l[i]? = some m := ⟨l[i]'(by rw [hn.out]; exact hlt2), List.getElem?_eq_getElem _⟩
            have hlt2' : (i : Int) < (k : Int) := by omega
            have ha := hA m (List.mem_of_getElem? hm)
            have d1 : (m.pr.tdiv rr).natAbs ≤ m.pr.natAbs := by rw [Int.natAbs_tdiv]; exact Nat.div_le_self _ _
            have R2 := R.set i m (mapTo_at _ l i m hm) (m.pr.tdiv rr) (by omega)
            have hms := mapTo_succ (divM rr) l i m hm
            rw [show divM rr m = { m with pr := m.pr.tdiv rr } from rfl] at hms
            rw [hms] at R2
            obtain ⟨c0, c1, c2⟩ := R.cells i m (mapTo_at _ l i m hm)
            have f2 := R.frozen (i * 3 + 2)
            have T2 := T.setCell (p := ⟨g, i * 3 + 2, none⟩) (fun _ => rfl) (.int .i64 (m.pr.tdiv rr))
            generalize eqx : m.pr.tdiv (rr : Int) = qx at *
            have e1 : -9223372036854775808 ≤ qx := by omega
            have e2 : qx ≤ 9223372036854775807 := by omega
            clear hm R hms hA d1 ha
            go_wp2_with fail
            go_roundw
            case rel => exact ⟨i + 1, by omega, by go_num, R2, T2⟩
            case measure => simp [intOf]; omega
          · have hkn : i = k := by omega
            subst hkn
            have hlt' : ¬ (i : Int) < (i : Int) := by omega
            rw [mapTo_all _ l i hn.out, ← HN.out] at R
            clear hA
            go_wp2_with fail
            go_end0
            exact ⟨rfl, R, T⟩
end Go.Proofs.Ytbhimedajfkioaa

/- narrowed of the document. -/
namespace Go.Proofs.Ytbhimedajfkioaa
open Go.RowKit
set_option linter.unusedVariables false

theorem tdiv_neg_of (p r : Int) (hp : p < 0) : p.tdiv r = -((-p) / r) := by
  have h : (-p).tdiv r = (-p) / r := Int.tdiv_eq_ediv_of_nonneg (by omega)
  rw [← h, Int.neg_tdiv]
  omega
theorem tdiv_pos_of (p r : Int) (hp : 0 ≤ p) : p.tdiv r = p / r := Int.tdiv_eq_ediv_of_nonneg hp

set_option maxRecDepth 100000 in
set_option maxHeartbeats 1000000 in
theorem narrowed42 (w : World) (g cap t : Nat) (l : List Mb) (R : Rw w g cap l) (h0 : 0 < l.length) (h64 : l.length ≤ 64) (hA : Abs 8070450532247928832 l) (ht : 0 < t) (ht2 : t ≤ 1152921504606846975) :
    Calls Try.prog 74 #[.slice (some ⟨g, 0, none⟩) l.length cap, .int .u64 t] w fun e w' => e = .returned (.tuple #[]) ∧ Rw w' g cap (narr (2 * t) l) ∧ Turn (fun b => b = g) w w' := by
  obtain ⟨z, hz⟩ : ∃ z, l[0]? = some z := ⟨l[0], List.getElem?_eq_getElem h0⟩
  obtain ⟨_, _, cz⟩ := R.cells 0 z hz
  simp only [Nat.zero_mul, Nat.zero_add] at cz
  have hz0 : hiK l 0 = z.pr := by rw [hiK, getD_some hz]
  have hz1 : loK l 0 = z.pr := by rw [loK, getD_some hz]
  have hHA := fun k hk => hiK_abs 8070450532247928832 l hA k h0 hk
  have hLH := fun k => lo_le_hi l k
  have hap : apartN l = (hiK l l.length - loK l l.length).toNat := rfl
  obtain ⟨n, hn⟩ : ∃ n, Hid (l.length = n) := ⟨_, rfl⟩
  have hn' : l.length = n := hn.out
  rw [hn'] at h0 h64 hap hHA ⊢
  clear hn'
  have h0' : (0 : Int) < (n : Int) := by omega
  have H00 : Hid (hiK l 0 = z.pr ∧ loK l 0 = z.pr) := ⟨hz0, hz1⟩
  have HAP : Hid (apartN l = (hiK l n - loK l n).toNat) := hap
  clear hz0 hz1 hap hz
  go_enter Try.func74, Try.ntmps74
  go_wp2_with fail
  go_loop [4, 5, 6] (fun x y c => ∃ k : Nat, k ≤ n ∧ c = .int .i64 k ∧ x = .int .i64 (hiK l k) ∧ y = .int .i64 (loK l k)) (fun _ _ c => n - (intOf c).toNat)
  case atStart => exact ⟨0, by omega, rfl, by rw [H00.out.1], by rw [H00.out.2]⟩
  case round =>
    obtain ⟨k, hk, rfl, rfl, rfl⟩ := hrel
    by_cases hlt : k < n
    · obtain ⟨m, hm⟩ : ∃ m, l[k]? = some m := ⟨l[k]'(by rw [hn.out]; exact hlt), List.getElem?_eq_getElem _⟩
      obtain ⟨c0, c1, c2⟩ := R.cells k m hm
      have hlt' : (k : Int) < (n : Int) := by omega
      have HS : Hid (hiK l (k + 1) = max (hiK l k) m.pr ∧ loK l (k + 1) = min (loK l k) m.pr) := hiK_succ l k m hm
      have hlh := hLH k
      generalize hiK l k = hi at *
      generalize loK l k = lo at *
      clear hm hA R hHA hLH cz H00
      rcases (show m.pr < lo ∧ ¬ hi < m.pr ∨ ¬ m.pr < lo ∧ hi < m.pr ∨ ¬ m.pr < lo ∧ ¬ hi < m.pr by omega) with ⟨a1, a2⟩ | ⟨a1, a2⟩ | ⟨a1, a2⟩
      all_goals
        go_wp2_with fail
        go_round
        case rel => exact ⟨k + 1, by omega, by go_num, by rw [HS.out.1]; go_num, by rw [HS.out.2]; go_num⟩
        case measure => simp [intOf]; omega
    · have hkn : k = n := by omega
      subst hkn
      have hlt' : ¬ (k : Int) < (k : Int) := by omega
      obtain ⟨a1, a2⟩ := hHA k (Nat.le_refl _)
      have hlh := hLH k
      obtain ⟨d, hd⟩ : ∃ d, Hid (apartN l = d) := ⟨_, rfl⟩
      have hdd : d = (hiK l k - loK l k).toNat := by rw [← hd.out]; exact HAP.out
      have hwr := apart_wrap (hiK l k) (loK l k) d hlh hdd (by omega)
      have hnr : Hid (narr (2 * t) l = if d ≤ 2 * t then l else l.map (divM (rN d (2 * t)))) := by show narr (2 * t) l = _; rw [narr, hd.out]
      have hdb : d ≤ 16140901064495857664 := by omega
      clear HAP
      generalize hiK l k = hi at *
      generalize loK l k = lo at *
      clear hdd hHA hLH H00 cz a1 a2 hlh
      by_cases a3 : d ≤ 2 * t
      · have a3' : (d : Int) ≤ 2 * (t : Int) := by omega
        have HN : Hid (narr (2 * t) l = l) := by show narr (2 * t) l = l; rw [hnr.out, if_pos a3]
        clear hnr hA
        go_wp2_with fail
        first | go_end0 | refine bodyPost_ret (results_none rfl _ _ _) rfl ?_
        exact ⟨rfl, by rw [HN.out]; exact R, Turn.refl _ _⟩
      · have a3' : ¬ (d : Int) ≤ 2 * (t : Int) := by omega
        have HN : Hid (narr (2 * t) l = l.map (divM (rN d (2 * t)))) := by show narr (2 * t) l = _; rw [hnr.out, if_neg a3]
        clear hnr
        have hrd := rN_doc d (2 * t) (by omega) (by omega)
        have hrr : rN d (2 * t) ≤ 8070450532247928833 := by
          unfold rN
          have : (d - 1) / (2 * t) ≤ (d - 1) / 2 := Nat.div_le_div_left (by omega) (by decide)
          omega
        have hr5 : 1 ≤ rN d (2 * t) := Nat.le_add_left _ _
        obtain ⟨rr, hrN⟩ : ∃ rr, Hid (rN d (2 * t) = rr) := ⟨_, rfl⟩
        rw [show rN d (2 * t) = rr from hrN.out] at HN hrd hrr hr5
        have hq1 : (d : Int) / (2 * (t : Int)) = ((d / (2 * t) : Nat) : Int) := by simp
        have hq2 : (d : Int) % (2 * (t : Int)) = ((d % (2 * t) : Nat) : Int) := by simp
        have hq3 : d / (2 * t) ≤ 8070450532247928833 := by
          have : d / (2 * t) ≤ d / 2 := Nat.div_le_div_left (by omega) (by decide)
          omega
        generalize d / (2 * t) = q at *
        generalize d % (2 * t) = m2 at *
        have hr2 : (rr : Int) ≤ 8070450532247928833 := by omega
        have hr3 : ¬ (rr : Int) = 0 := by omega
        have ht3 : ¬ 2 * (t : Int) = 0 := by omega
        have hq4 : (q : Int) ≤ 8070450532247928833 := by omega
        have ht4 : (t : Int) ≤ 1152921504606846975 := by omega
        by_cases a4 : m2 = 0
        · rw [if_pos a4] at hrd
          have hrd' : (q : Int) = (rr : Int) := by omega
          have a4' : ((m2 : Int) == 0) = true := by simp; omega
          have a4'' : ((m2 : Int) != 0) = false := by simp; omega
          clear hrN hrd a4
          go_wp2_with fail
          clear hwr hq1 hq2 hrd'
          go_loopw [9, 10] (fun c u wr => ∃ i : Nat, i ≤ k ∧ c = .int .i64 i ∧ Rw wr g cap (mapTo (divM rr) l i) ∧ Turn (fun b => b = g) w wr) (fun c _ _ => k - (intOf c).toNat)
          case atStart => exact ⟨0, by omega, rfl, by rw [mapTo_zero]; exact R, Turn.refl _ _⟩
          case round =>
            clear R
            obtain ⟨i, hi, rfl, R, T⟩ := hrel
            by_cases hlt2 : i < k
            · obtain ⟨m, hm⟩ : ∃ m, l[i]? = some m := ⟨l[i]'(by rw [hn.out]; exact hlt2), List.getElem?_eq_getElem _⟩
              have hlt2' : (i : Int) < (k : Int) := by omega
              have ha := hA m (List.mem_of_getElem? hm)
              have d1 : (m.pr.tdiv rr).natAbs ≤ m.pr.natAbs := by rw [Int.natAbs_tdiv]; exact Nat.div_le_self _ _
              have R2 := R.set i m (mapTo_at _ l i m hm) (m.pr.tdiv rr) (by omega)
              have hms := mapTo_succ (divM rr) l i m hm
              rw [show divM rr m = { m with pr := m.pr.tdiv rr } from rfl] at hms
              rw [hms] at R2
              obtain ⟨c0, c1, c2⟩ := R.cells i m (mapTo_at _ l i m hm)
              have f2 := R.frozen (i * 3 + 2)
              have T2 := T.setCell (p := ⟨g, i * 3 + 2, none⟩) (fun _ => rfl) (.int .i64 (m.pr.tdiv rr))
              by_cases a5 : m.pr < 0
              · have e4 := tdiv_neg_of m.pr rr a5
                rw [e4] at R2 T2 d1
                have e0 : 0 ≤ (-m.pr) / (rr : Int) := Int.ediv_nonneg (by omega) (by omega)
                generalize eqx : (-m.pr) / (rr : Int) = qx at *
                have e1 : qx ≤ 8070450532247928833 := by omega
                have e2 : -8070450532247928833 ≤ m.pr := by omega
                clear hm R hms hA d1 ha
                go_wp2_with fail
                go_roundw
                case rel => exact ⟨i + 1, by omega, by go_num, R2, T2⟩
                case measure => simp [intOf]; omega
              · rw [tdiv_pos_of m.pr rr (by omega)] at R2 T2 d1
                have e0 : 0 ≤ m.pr / (rr : Int) := Int.ediv_nonneg (by omega) (by omega)
                generalize eqx : m.pr / (rr : Int) = qx at *
                have e1 : qx ≤ 8070450532247928833 := by omega
                have e2 : m.pr ≤ 8070450532247928833 := by omega
                have e3 : 0 ≤ m.pr := by omega
                clear hm R hms hA d1 ha
                go_wp2_with fail
                go_roundw
                case rel => exact ⟨i + 1, by omega, by go_num, R2, T2⟩
                case measure => simp [intOf]; omega
            · have hkn : i = k := by omega
              subst hkn
              have hlt' : ¬ (i : Int) < (i : Int) := by omega
              rw [mapTo_all _ l i hn.out, ← HN.out] at R
              clear hA
              go_wp2_with fail
              go_end0
              exact ⟨rfl, R, T⟩
        · rw [if_neg a4] at hrd
          have hrd' : (q : Int) + 1 = (rr : Int) := by omega
          have a4' : ((m2 : Int) == 0) = false := by simp; omega
          have a4'' : ((m2 : Int) != 0) = true := by simp; omega
          clear hrN hrd
          go_wp2_with fail
          clear hwr hq1 hq2 hrd'
          go_loopw [9, 10] (fun c u wr => ∃ i : Nat, i ≤ k ∧ c = .int .i64 i ∧ Rw wr g cap (mapTo (divM rr) l i) ∧ Turn (fun b => b = g) w wr) (fun c _ _ => k - (intOf c).toNat)
          case atStart => exact ⟨0, by omega, rfl, by rw [mapTo_zero]; exact R, Turn.refl _ _⟩
          case round =>
            clear R
            obtain ⟨i, hi, rfl, R, T⟩ := hrel
            by_cases hlt2 : i < k
            · obtain ⟨m, hm⟩ : ∃ m, l[i]? = some m := ⟨l[i]'(by rw [hn.out]; exact hlt2), List.getElem?_eq_getElem _⟩
              have hlt2' : (i : Int) < (k : Int) := by omega
              have ha := hA m (List.mem_of_getElem? hm)
              have d1 : (m.pr.tdiv rr).natAbs ≤ m.pr.natAbs := by rw [Int.natAbs_tdiv]; exact Nat.div_le_self _ _
              have R2 := R.set i m (mapTo_at _ l i m hm) (m.pr.tdiv rr) (by omega)
              have hms := mapTo_succ (divM rr) l i m hm
              rw [show divM rr m = { m with pr := m.pr.tdiv rr } from rfl] at hms
              rw [hms] at R2
              obtain ⟨c0, c1, c2⟩ := R.cells i m (mapTo_at _ l i m hm)
              have f2 := R.frozen (i * 3 + 2)
              have T2 := T.setCell (p := ⟨g, i * 3 + 2, none⟩) (fun _ => rfl) (.int .i64 (m.pr.tdiv rr))
              by_cases a5 : m.pr < 0
              · have e4 := tdiv_neg_of m.pr rr a5
                rw [e4] at R2 T2 d1
                have e0 : 0 ≤ (-m.pr) / (rr : Int) := Int.ediv_nonneg (by omega) (by omega)
                generalize eqx : (-m.pr) / (rr : Int) = qx at *
                have e1 : qx ≤ 8070450532247928833 := by omega
                have e2 : -8070450532247928833 ≤ m.pr := by omega
                clear hm R hms hA d1 ha
                go_wp2_with fail
                go_roundw
                case rel => exact ⟨i + 1, by omega, by go_num, R2, T2⟩
                case measure => simp [intOf]; omega
              · rw [tdiv_pos_of m.pr rr (by omega)] at R2 T2 d1
                have e0 : 0 ≤ m.pr / (rr : Int) := Int.ediv_nonneg (by omega) (by omega)
                generalize eqx : m.pr / (rr : Int) = qx at *
                have e1 : qx ≤ 8070450532247928833 := by omega
                have e2 : m.pr ≤ 8070450532247928833 := by omega
                have e3 : 0 ≤ m.pr := by omega
                clear hm R hms hA d1 ha
                go_wp2_with fail
                go_roundw
                case rel => exact ⟨i + 1, by omega, by go_num, R2, T2⟩
                case measure => simp [intOf]; omega
            · have hkn : i = k := by omega
              subst hkn
              have hlt' : ¬ (i : Int) < (i : Int) := by omega
              rw [mapTo_all _ l i hn.out, ← HN.out] at R
              clear hA
              go_wp2_with fail
              go_end0
              exact ⟨rfl, R, T⟩
end Go.Proofs.Ytbhimedajfkioaa

/- takeOver of the program. -/
namespace Go.Proofs.Ytbhimedajfkioaa
open Go.RowKit
set_option linter.unusedVariables false

/-- With which priority an address begins. -/
def pri (c : List Mb) (t a : Nat) : Int := if idxE c a < 0 then -((t + t / 8 : Nat) : Int) else (c.getD (idxE c a).toNat mb0).pr
def tkM (c : List Mb) (t : Nat) (m : Mb) : Mb := { m with pr := pri c t m.ad }
theorem idx_spec (c : List Mb) (a : Nat) : idxE c a = -1 ∨ ∃ (i : Nat) (x : Mb), idxE c a = i ∧ c[i]? = some x ∧ x.ad = a := by
  induction c with
  | nil => exact .inl rfl
  | cons m r ih =>
    rw [idxE]
    by_cases h : m.ad = a
    · rw [if_pos h]
      exact .inr ⟨0, m, rfl, rfl, h⟩
    · rw [if_neg h]
      rcases ih with q | ⟨i, x, q, hx, hxa⟩
      · rw [q]
        exact .inl rfl
      · rw [q, if_neg (by omega)]
        exact .inr ⟨i + 1, x, by omega, by simpa using hx, hxa⟩
theorem pri_none (c : List Mb) (t a : Nat) (h : idxE c a = -1) : pri c t a = -((t + t / 8 : Nat) : Int) := by rw [pri, h, if_pos (by omega)]
theorem pri_some (c : List Mb) (t a i : Nat) (x : Mb) (h : idxE c a = i) (hx : c[i]? = some x) : pri c t a = x.pr := by
  rw [pri, h, if_neg (by omega)]
  simp [List.getD, hx]
theorem set_set (l : List Mb) (k : Nat) (a b : Mb) : (l.set k a).set k b = l.set k b := by simp

set_option maxRecDepth 100000 in
set_option maxHeartbeats 1000000 in
theorem take33 (w : World) (g cap t : Nat) (l c : List Mb) (ac : Option Addr) (capc : Nat) (R : Rw w g cap l) (C : MsAt w ac capc c) (hac : ∀ x, ac = some x → x.block ≠ g) (ht : t ≤ 1152921504606846975) :
    Calls Try.prog 92 #[.slice (some ⟨g, 0, none⟩) l.length cap, .agg #[.slice ac c.length capc], .int .u64 t] w fun e w' => e = .returned (.tuple #[]) ∧ Rw w' g cap (l.map (tkM c t)) ∧ Turn (fun b => b = g) w w' := by
  have hle : l.length ≤ 9223372036854775807 := by have := R.le; have := R.most; simp only [maxLen] at this; omega
  have hcle : c.length ≤ 9223372036854775807 := by have := C.le; have := C.cap; simp only [maxLen] at this; omega
  have hgw := R.lt
  have T0 : Turn no w (w.alloc (.cells #[.slice ac c.length capc] 24)) := (Turn.refl no w).alloc _
  have B0 := Bx.new w (.slice ac c.length capc) 24
  have R0 := R.turn_no T0
  have C0 := C.turn_no T0
  clear R C
  obtain ⟨n, hn⟩ : ∃ n, Hid (l.length = n) := ⟨_, rfl⟩
  have hn' : l.length = n := hn.out
  rw [hn'] at hle ⊢
  obtain ⟨nc, hnc⟩ : ∃ nc, Hid (c.length = nc) := ⟨_, rfl⟩
  have hnc' : c.length = nc := hnc.out
  rw [hnc'] at hcle T0 B0 R0 C0 ⊢
  clear hn' hnc'
  have ht' : (t : Int) ≤ 1152921504606846975 := by omega
  go_enter Try.func92, Try.ntmps92
  go_wp2_with fail
  generalize w.alloc (.cells #[.slice ac nc capc] 24) = w0 at *
  go_loopw [11] (fun x wr => ∃ k : Nat, k ≤ n ∧ x = .int .i64 k ∧ Rw wr g cap (mapTo (tkM c t) l k) ∧ Turn (fun b => b = g) w0 wr) (fun x _ => n - (intOf x).toNat)
  case atStart => exact ⟨0, by omega, rfl, by rw [mapTo_zero]; exact R0, Turn.refl _ _⟩
  case round =>
    clear R0
    obtain ⟨k, hk, rfl, R, T⟩ := hrel
    by_cases hlt : k < n
    · obtain ⟨m, hm⟩ : ∃ m, l[k]? = some m := ⟨l[k]'(by rw [hn.out]; exact hlt), List.getElem?_eq_getElem _⟩
      have hlt' : (k : Int) < (n : Int) := by omega
      have hgr := R.lt
      obtain ⟨c0, c1, c2⟩ := R.cells k m (mapTo_at _ l k m hm)
      have f2 := R.frozen (k * 3 + 2)
      obtain ⟨v1, hv1⟩ : ∃ v1 : Int, Hid (-((t + t / 8 : Nat) : Int) = v1) := ⟨_, rfl⟩
      have hv1' : v1 = -((t : Int) + (t : Int) / 8) := by rw [← hv1.out]; omega
      have R1 := R.set k m (mapTo_at _ l k m hm) v1 (by omega)
      have T1 := T.setCell (p := ⟨g, k * 3 + 2, none⟩) (fun _ => rfl) (.int .i64 v1)
      have hkl : k < (mapTo (tkM c t) l k).length := by rw [mapTo_len, hn.out]; exact hlt
      have hms := mapTo_succ (tkM c t) l k m hm
      rw [show tkM c t m = { m with pr := pri c t m.ad } from rfl] at hms
      have TA := (Turn.refl no (wr.setCell ⟨g, k * 3 + 2, none⟩ (.int .i64 v1))).alloc (.cells #[.int .u64 m.ad, .int .u64 m.pw, .int .i64 m.pr] 71)
      have R2 := R1.turn_no TA
      have T2 := T1.then_no TA
      have C2 := C0.turn T2 (fun x hx => hac x hx)
      have B2 := B0.turn T2 (fun q => by omega)
      have b2 := B2.c
      have hix := index20 _ (.slice ac nc capc) c ⟨ac, capc, by rw [show c.length = nc from hnc.out], C2⟩ m.ad
      have hspec := idx_spec c m.ad
      have hpn := pri_none c t m.ad
      have hps := pri_some c t m.ad
      rw [show -((t + t / 8 : Nat) : Int) = v1 from hv1.out] at hpn
      clear hm R R1 T1
      have hv2 : -((t : Int) + (t : Int) / 8) = v1 := hv1'.symm
      clear hv1'
      have hv1 : True := trivial
      rcases hspec with hI | ⟨i, x, hI, hx, _⟩
      · rw [hpn hI] at hms
        rw [hms] at R2
        rw [hI] at hix
        clear hI hpn hps hms C0 C2
        go_wp2_with fail
        refine hix.mono ?_
        rintro e w3 ⟨rfl, T3⟩
        have R3 := R2.turn_no T3
        have TT := T2.then_no T3
        clear hix R2 T2 T3 hv2 b2
        go_wp2_with fail
        go_roundw
        case rel => exact ⟨k + 1, by omega, by go_num, R3, TT⟩
        case measure => simp [intOf]; omega
      · have hps := hps i x hI hx
        rw [hI] at hix
        have hil : i < nc := by rw [← hnc.out]; exact (List.getElem?_eq_some_iff.1 hx).1
        have hil' : (i : Int) < (nc : Int) := by omega
        have hok := C0.ok x (List.mem_of_getElem? hx)
        clear hI hpn C0
        go_wp2_with fail
        refine hix.mono ?_
        rintro e w3 ⟨rfl, T3⟩
        have R3 := R2.turn_no T3
        have TT := T2.then_no T3
        have C3 := C2.turn_no T3
        obtain ⟨bc, offc, eac, x0, x1, x2⟩ := C3.cells i x hx
        subst eac
        have b3 := (B2.turn_no T3).c
        have hm1 : ((mapTo (tkM c t) l k).set k { m with pr := v1 })[k]? = some { m with pr := v1 } := by
          rw [List.getElem?_set_self hkl]
        obtain ⟨d0, d1, d2⟩ := R3.cells k _ hm1
        have f3 := R3.frozen (k * 3 + 2)
        have R4 := R3.set k _ hm1 x.pr ⟨hok.2.2.1, hok.2.2.2⟩
        rw [set_set] at R4
        rw [hps] at hms
        have R5 : Rw (w3.setCell ⟨g, k * 3 + 2, none⟩ (.int .i64 x.pr)) g cap (mapTo (tkM c t) l (k + 1)) := by rw [← hms]; exact R4
        have T5 := TT.setCell (p := ⟨g, k * 3 + 2, none⟩) (fun _ => rfl) (.int .i64 x.pr)
        have hg3 := R3.lt
        clear hix R2 T2 T3 hv2 b2 hms hm1 R3 R4 hps C2 C3 hx hok B2
        go_wp2_with fail
        go_roundw
        case rel => exact ⟨k + 1, by omega, by go_num, R5, T5⟩
        case measure => simp [intOf]; omega
    · have hkn : k = n := by omega
      subst hkn
      have hlt' : ¬ (k : Int) < (k : Int) := by omega
      rw [mapTo_all _ l k hn.out] at R
      go_wp2_with fail
      go_end0
      exact ⟨rfl, R, T0.of_no.trans T (fun _ _ q => q)⟩
end Go.Proofs.Ytbhimedajfkioaa

/- Renew of the program. -/
namespace Go.Proofs.Ytbhimedajfkioaa
open Go.RowKit
set_option linter.unusedVariables false

theorem tdiv_near (X Y r t2 : Int) (hr : 0 < r) (ht : 0 ≤ t2) (h : X - Y ≤ t2 * r) : X.tdiv r - Y.tdiv r ≤ t2 := by
  have x1 := Int.mul_tdiv_add_tmod X r
  have y1 := Int.mul_tdiv_add_tmod Y r
  have x2 := tmod_lt X r hr
  have y2 := tmod_lt Y r hr
  by_cases q : X.tdiv r - Y.tdiv r ≤ t2
  · exact q
  · exfalso
    have e : r * (X.tdiv r) - r * (Y.tdiv r) = r * (X.tdiv r - Y.tdiv r) := by rw [Int.mul_sub]
    have e2 : r * (t2 + 1) ≤ r * (X.tdiv r - Y.tdiv r) := Int.mul_le_mul_of_nonneg_left (by omega) (by omega)
    have e3 : r * (t2 + 1) = t2 * r + r := by rw [Int.mul_add, Int.mul_comm]; omega
    have e4 : r + X.tmod r - Y.tmod r ≤ 0 := by omega
    have hX : X < 0 := by
      rcases Int.lt_or_le X 0 with q | q
      · exact q
      · have := Int.tmod_nonneg r q
        omega
    have hY : 0 < Y := by
      rcases Int.lt_or_le 0 Y with q | q
      · exact q
      · have h1 : 0 ≤ (-Y).tmod r := Int.tmod_nonneg r (by omega)
        rw [Int.neg_tmod] at h1
        omega
    have h1 : 0 ≤ Y.tdiv r := Int.tdiv_nonneg (by omega) (by omega)
    have h2 : 0 ≤ (-X).tdiv r := Int.tdiv_nonneg (by omega) (by omega)
    rw [Int.neg_tdiv] at h2
    omega
theorem narr_len (t2 : Nat) (l : List Mb) : (narr t2 l).length = l.length := by unfold narr; split <;> simp
theorem cent_len (l : List Mb) : (cent l).length = l.length := by simp [cent]
theorem apart_le (l : List Mb) (x y : Mb) (hx : x ∈ l) (hy : y ∈ l) : x.pr - y.pr ≤ apartN l := by
  obtain ⟨i, hi⟩ := List.getElem?_of_mem hx
  obtain ⟨j, hj⟩ := List.getElem?_of_mem hy
  have h1 := (hiK_ge l l.length i x (List.getElem?_eq_some_iff.1 hi).1 hi).1
  have h2 := (hiK_ge l l.length j y (List.getElem?_eq_some_iff.1 hj).1 hj).2
  unfold apartN
  omega
theorem narr_near (t2 : Nat) (l : List Mb) (ht : 0 < t2) : ∀ x ∈ narr t2 l, ∀ y ∈ narr t2 l, x.pr - y.pr ≤ t2 := by
  unfold narr
  split
  · intro x hx y hy
    have := apart_le l x y hx hy
    omega
  · intro x hx y hy
    obtain ⟨X, hX, rfl⟩ := List.mem_map.1 hx
    obtain ⟨Y, hY, rfl⟩ := List.mem_map.1 hy
    have h1 := apart_le l X Y hX hY
    have h2 := rN_mul (apartN l) t2 ht
    refine tdiv_near X.pr Y.pr (rN (apartN l) t2) t2 ?_ (by omega) ?_
    · have : 1 ≤ rN (apartN l) t2 := Nat.le_add_left _ _
      omega
    · have h3 : ((apartN l : Nat) : Int) ≤ ((t2 * rN (apartN l) t2 : Nat) : Int) := by omega
      rw [Int.natCast_mul] at h3
      omega
theorem Abs.narr {B : Nat} {l : List Mb} (h : Abs B l) (t2 : Nat) : Abs B (narr t2 l) := by
  unfold Ytbhimedajfkioaa.narr
  split
  · exact h
  · intro m hm
    obtain ⟨x, hx, rfl⟩ := List.mem_map.1 hm
    have h1 := h x hx
    have : (x.pr.tdiv (rN (apartN l) t2)).natAbs ≤ x.pr.natAbs := by rw [Int.natAbs_tdiv]; exact Nat.div_le_self _ _
    simp only [divM]
    omega
/-- How far a priority is from the average. -/
theorem near_avg (t2 : Nat) (l : List Mb) (h0 : 0 < l.length) (h : ∀ x ∈ l, ∀ y ∈ l, x.pr - y.pr ≤ t2) : ∀ m ∈ l, -(t2 : Int) ≤ m.pr - sumP l / l.length ∧ m.pr - sumP l / l.length ≤ t2 := by
  intro m hm
  have := avg_between l (m.pr - t2) (m.pr + t2) h0 (fun y hy => by
    have h1 := h m hm y hy
    have h2 := h y hy m hm
    omega)
  omega
def renewL (c l : List Mb) : List Mb := cent (narr (2 * tot l) (l.map (tkM c (tot l))))
def renewE (c l : List Mb) : Int := if soundE c ≠ 0 then soundE c else weighE l
theorem took_abs (c l : List Mb) (t : Nat) (hc : soundE c = 0) (ht : t ≤ 1152921504606846975) : Abs 8070450532247928832 (l.map (tkM c t)) := by
  intro m hm
  obtain ⟨x, hx, rfl⟩ := List.mem_map.1 hm
  simp only [tkM]
  have hcb := sound_ok c hc
  have htc := (weigh_ok c hcb.1).2.2.2
  unfold top at htc
  rcases idx_spec c x.ad with q | ⟨i, y, q, hy, _⟩
  · rw [pri_none c t x.ad q]
    omega
  · rw [pri_some c t x.ad i y q hy]
    have := hcb.2 y (List.mem_of_getElem? hy)
    omega
theorem tk_keys (c l : List Mb) (t : Nat) : keys (l.map (tkM c t)) = keys l := by simp [keys, tkM, Function.comp_def]
theorem narr_keys (t2 : Nat) (l : List Mb) : keys (narr t2 l) = keys l := by
  unfold narr
  split
  · rfl
  · simp [keys, divM, Function.comp_def]
theorem cent_keys (l : List Mb) : keys (cent l) = keys l := by simp [keys, cent, subM, Function.comp_def]
theorem renew_keys (c l : List Mb) : keys (renewL c l) = keys l := by unfold renewL; rw [cent_keys, narr_keys, tk_keys]
theorem renew_len (c l : List Mb) : (renewL c l).length = l.length := by unfold renewL; rw [cent_len, narr_len, List.length_map]
/-- What Renew answers keeps within two totals. -/
theorem renew_near (c l : List Mb) (hl : weighE l = 0) : ∀ m ∈ renewL c l, -(2 * (tot l : Int)) ≤ m.pr ∧ m.pr ≤ 2 * tot l := by
  intro m hm
  unfold renewL cent at hm
  obtain ⟨x, hx, rfl⟩ := List.mem_map.1 hm
  have hp := tot_pos l hl
  have hn := (weigh_ok l hl).1
  have := near_avg (2 * tot l) _ (by rw [narr_len, List.length_map]; omega) (narr_near (2 * tot l) (l.map (tkM c (tot l))) (by omega)) x hx
  simp only [subM]
  omega
theorem renew_sound (c l : List Mb) (hl : weighE l = 0) : soundE (renewL c l) = 0 := by
  refine sound_end _ (by rw [keys_weigh (renew_keys c l)]; exact hl) (fun m hm => ?_)
  have := renew_near c l hl m hm
  rw [keys_tot (renew_keys c l)]
  simp [wideB]
  omega

set_option maxRecDepth 100000 in
set_option maxHeartbeats 1000000 in
theorem renew11_yes (w : World) (vc v : Value) (c l : List Mb) (hc : Ms w vc c) (h : Ms w v l) (hE : soundE c = 0) (hL : weighE l = 0) : Calls Try.prog 66 #[.agg #[vc], v] w fun e w' => ∃ u, e = .returned (.tuple #[.agg #[u], .int .i64 0]) ∧ Made w.heap.size w' u (renewL c l) ∧ Turn no w w' := by
  have T0 : Turn no w ((w.alloc (.cells #[vc] 24)).alloc (.cells #[.slice none 0 0] 24)) := ((Turn.refl no w).alloc _).alloc _
  have B0 := (Bx.new w vc 24).turn_no ((Turn.refl no _).alloc (.cells #[.slice none 0 0] 24))
  have B1 := Bx.new (w.alloc (.cells #[vc] 24)) (.slice none 0 0) 24
  rw [show (w.alloc (.cells #[vc] 24)).heap.size = w.heap.size + 1 by simp] at B1
  have hz0 : w.heap.size + 1 < ((w.alloc (.cells #[vc] 24)).alloc (.cells #[.slice none 0 0] 24)).heap.size := by simp
  have hso := sound16 _ vc c (hc.turn_no T0)
  rw [hE] at hso
  obtain ⟨hn0, hn64, _, _⟩ := weigh_ok l hL
  have hwe := fun W (T : Turn no w W) => weigh63 W v l (h.turn_no T)
  rw [hL, weighT_ok l hL] at hwe
  have hcl := fun W (T : Turn no w W) => clone33 W v l (h.turn_no T) (by omega) hn64
  have htt := tot_le_top l hL
  have hpos := tot_pos l hL
  have hA := took_abs c l (tot l) hE htt
  have hA2 := hA.narr (2 * tot l)
  have hnear := near_avg (2 * tot l) (narr (2 * tot l) (l.map (tkM c (tot l)))) (by rw [narr_len, List.length_map]; omega) (narr_near (2 * tot l) (l.map (tkM c (tot l))) (by omega))
  have hrl : Hid (renewL c l = cent (narr (2 * tot l) (l.map (tkM c (tot l))))) := rfl
  obtain ⟨va, vcap, ev⟩ := h.shape
  obtain ⟨ac, capc, rfl, C⟩ := hc
  -- where the old council lies
  have hold : c ≠ [] := by
    intro q
    have := (weigh_ok c (sound_ok c hE).1).1
    rw [q] at this
    exact this rfl
  obtain ⟨y0, hy0⟩ : ∃ y, c[0]? = some y := by
    cases c with
    | nil => exact absurd rfl hold
    | cons y r => exact ⟨y, rfl⟩
  obtain ⟨b0, o0, eac, x0, xx⟩ := C.cells 0 y0 hy0
  subst eac
  have hb0 : b0 < w.heap.size := World.block_lt_of_cell? w _ x0
  clear h x0 xx hy0 hold hE hL
  obtain ⟨t, ht⟩ : ∃ t, Hid (tot l = t) := ⟨_, rfl⟩
  have ht' : tot l = t := ht.out
  rw [ht'] at hwe htt hpos hA hA2 hnear hrl
  have hln1 : (l.map (tkM c t)).length = l.length := List.length_map _
  have hln2 := narr_len (2 * t) (l.map (tkM c t))
  rw [hln1] at hln2
  rw [hln2] at hnear
  obtain ⟨nc, hnc⟩ : ∃ nc, Hid (c.length = nc) := ⟨_, rfl⟩
  have hnc' : c.length = nc := hnc.out
  obtain ⟨n, hn⟩ : ∃ n, Hid (l.length = n) := ⟨_, rfl⟩
  have hn' : l.length = n := hn.out
  rw [hn'] at hn0 hn64 hcl ev hln1 hln2 hnear
  rw [hnc'] at hso T0 B0 B1 hz0 ⊢
  clear ht' hn' hnc'
  have ht2 : (t : Int) ≤ 1152921504606846975 := by omega
  subst ev
  go_enter Try.func66, Try.ntmps66
  go_wp2_with fail
  refine hso.mono ?_
  rintro e w1 ⟨rfl, T1⟩
  have B02 := B0.turn_no T1
  have B12 := B1.turn_no T1
  have T := T0.then_no T1
  have hz1 := T1.size
  have hwe := hwe w1 T
  clear hso B0 B1
  go_wp2_with fail
  refine hwe.mono ?_
  rintro e w2 ⟨rfl, T2⟩
  have B02 := B02.turn_no T2
  have B12 := B12.turn_no T2
  have T := T.then_no T2
  have hz2 := T2.size
  have hcl := hcl w2 T
  clear hwe
  go_wp2_with fail
  refine hcl.mono ?_
  rintro e w3 ⟨g, cap, rfl, R, hg, T3⟩
  have B03 := B02.turn_no T3
  have B13 := B12.turn_no T3
  have T := T.then_no T3
  have hgw : w.heap.size + 1 < g := by omega
  have C3 := C.turn_no T
  have htk := take33 w3 g cap t l c (some ⟨b0, o0, none⟩) capc R C3 (fun x hx => by cases hx; show b0 ≠ g; omega) htt
  rw [show l.length = n from hn.out, show c.length = nc from hnc.out] at htk
  have k3 := B03.c
  clear hcl B02 B12 T1 T2 T3 T0 hz0 hz1 hz2 hg C R
  go_wp2_with fail
  refine htk.mono ?_
  rintro e w4 ⟨rfl, R4, T4⟩
  have hdr := draw34 w4 g cap (2 * t) _ R4 (by rw [hln1]; omega) (by rw [hln1]; exact hn64) hA (by omega) (by omega)
  rw [hln1, show ((2 * t : Nat) : Int) = 2 * (t : Int) by omega] at hdr
  have B04 := B13.turn T4 (fun q => by omega)
  have TT := T.of_no.trans T4 (fun _ _ q => q)
  clear htk k3 C3
  go_wp2_with fail
  refine hdr.mono ?_
  rintro e w5 ⟨rfl, R5, T5⟩
  have hce := centre35 w5 g cap _ R5 (by rw [hln2]; omega) (by rw [hln2]; exact hn64) hA2 (fun m hm => by rw [hln2]; have := hnear m hm; omega)
  rw [hln2, ← hrl.out] at hce
  have B05 := B04.turn T5 (fun q => by omega)
  have TT := TT.trans T5 (fun _ _ q => q)
  clear hdr R4 hA hA2
  go_wp2_with fail
  refine hce.mono ?_
  rintro e w6 ⟨rfl, R6, T6⟩
  have B06 := B05.turn T6 (fun q => by omega)
  have TT := TT.trans T6 (fun _ _ q => q)
  have c4 := B06.c
  have f4 := B06.f
  have c5 := B06.set (.slice (some ⟨g, 0, none⟩) n cap)
  have Tw : Turn no w w6 := TT.mono (fun b hb q => by omega)
  have R7 := R6.turn ((Turn.refl (fun b => b = w.heap.size + 1) w6).setCell (p := ⟨w.heap.size + 1, 0, none⟩) (fun _ => rfl) (.slice (some ⟨g, 0, none⟩) n cap)) (fun q => by omega)
  have MD : Made w.heap.size (w6.setCell ⟨w.heap.size + 1, 0, none⟩ (.slice (some ⟨g, 0, none⟩) n cap)) (.slice (some ⟨g, 0, none⟩) n cap) (renewL c l) := ⟨g, cap, by rw [renew_len, show l.length = n from hn.out], R7, by omega⟩
  have T8 := Tw.set0 (g := w.heap.size + 1) (by omega) (.slice (some ⟨g, 0, none⟩) n cap)
  clear hce R5 R6 R7 hnear B03 B13 B04 B05 B06 TT Tw
  go_wp2_with fail
  exact bodyPost_ret (v := .tuple #[.agg #[.slice (some ⟨g, 0, none⟩) n cap], .int .i64 0]) (by simp [results, Try.results66, go_sem, c5]) rfl ⟨_, rfl, MD, T8⟩
end Go.Proofs.Ytbhimedajfkioaa

/- Renew: what is refused; Renew of the document. -/
namespace Go.Proofs.Ytbhimedajfkioaa
open Go.RowKit
set_option linter.unusedVariables false

set_option maxRecDepth 100000 in
set_option maxHeartbeats 1000000 in
theorem renew11_bad (w : World) (vc v : Value) (c l : List Mb) (hc : Ms w vc c) (h : Ms w v l) (hE : soundE c ≠ 0) : Calls Try.prog 66 #[.agg #[vc], v] w fun e w' => e = .returned (.tuple #[.agg #[.slice none 0 0], .int .i64 (soundE c)]) ∧ Turn no w w' := by
  have T0 : Turn no w ((w.alloc (.cells #[vc] 24)).alloc (.cells #[.slice none 0 0] 24)) := ((Turn.refl no w).alloc _).alloc _
  have B1 := Bx.new (w.alloc (.cells #[vc] 24)) (.slice none 0 0) 24
  rw [show (w.alloc (.cells #[vc] 24)).heap.size = w.heap.size + 1 by simp] at B1
  have hso := sound16 _ vc c (hc.turn_no T0)
  have hne : (soundE c == 0) = false := by simp; exact hE
  clear h hc
  go_enter Try.func66, Try.ntmps66
  go_wp2_with fail
  refine hso.mono ?_
  rintro e w1 ⟨rfl, T1⟩
  have B2 := B1.turn_no T1
  have T := T0.then_no T1
  have c4 := B2.c
  have f4 := B2.f
  have c5 := B2.set (.slice none 0 0)
  clear hso B1 B2
  go_wp2_with fail
  exact bodyPost_ret (v := .tuple #[.agg #[.slice none 0 0], .int .i64 (soundE c)]) (by simp [results, Try.results66, go_sem, c5]) rfl ⟨rfl, T.set0 (by omega) _⟩

set_option maxRecDepth 100000 in
set_option maxHeartbeats 1000000 in
theorem renew11_list (w : World) (vc v : Value) (c l : List Mb) (hc : Ms w vc c) (h : Ms w v l) (hE : soundE c = 0) (hL : weighE l ≠ 0) : Calls Try.prog 66 #[.agg #[vc], v] w fun e w' => e = .returned (.tuple #[.agg #[.slice none 0 0], .int .i64 (weighE l)]) ∧ Turn no w w' := by
  have T0 : Turn no w ((w.alloc (.cells #[vc] 24)).alloc (.cells #[.slice none 0 0] 24)) := ((Turn.refl no w).alloc _).alloc _
  have B1 := Bx.new (w.alloc (.cells #[vc] 24)) (.slice none 0 0) 24
  rw [show (w.alloc (.cells #[vc] 24)).heap.size = w.heap.size + 1 by simp] at B1
  have hso := sound16 _ vc c (hc.turn_no T0)
  rw [hE] at hso
  have hwe := fun W (T : Turn no w W) => weigh63 W v l (h.turn_no T)
  have hne : (weighE l == 0) = false := by simp; exact hL
  clear h hc
  go_enter Try.func66, Try.ntmps66
  go_wp2_with fail
  refine hso.mono ?_
  rintro e w1 ⟨rfl, T1⟩
  have B2 := B1.turn_no T1
  have T := T0.then_no T1
  have hwe := hwe w1 T
  clear hso B1
  go_wp2_with fail
  refine hwe.mono ?_
  rintro e w2 ⟨rfl, T2⟩
  have B2 := B2.turn_no T2
  have T := T.then_no T2
  have c4 := B2.c
  have f4 := B2.f
  have c5 := B2.set (.slice none 0 0)
  clear hwe B2
  go_wp2_with fail
  exact bodyPost_ret (v := .tuple #[.agg #[.slice none 0 0], .int .i64 (weighE l)]) (by simp [results, Try.results66, go_sem, c5]) rfl ⟨rfl, T.set0 (by omega) _⟩

set_option maxRecDepth 100000 in
set_option maxHeartbeats 1000000 in
theorem rrenew21_bad (w : World) (vc v : Value) (c l : List Mb) (hc : Ms w vc c) (h : Ms w v l) (hE : soundE c ≠ 0) : Calls Try.prog 38 #[.agg #[vc], v] w fun e w' => e = .returned (.tuple #[.agg #[.slice none 0 0], .int .i64 (soundE c)]) ∧ Turn no w w' := by
  have T0 : Turn no w ((w.alloc (.cells #[vc] 24)).alloc (.cells #[.slice none 0 0] 24)) := ((Turn.refl no w).alloc _).alloc _
  have B1 := Bx.new (w.alloc (.cells #[vc] 24)) (.slice none 0 0) 24
  rw [show (w.alloc (.cells #[vc] 24)).heap.size = w.heap.size + 1 by simp] at B1
  have hso := rsound24 _ vc c (hc.turn_no T0)
  have hne : (soundE c == 0) = false := by simp; exact hE
  clear h hc
  go_enter Try.func38, Try.ntmps38
  go_wp2_with fail
  refine hso.mono ?_
  rintro e w1 ⟨rfl, T1⟩
  have B2 := B1.turn_no T1
  have T := T0.then_no T1
  have c4 := B2.c
  have f4 := B2.f
  have c5 := B2.set (.slice none 0 0)
  clear hso B1 B2
  go_wp2_with fail
  exact bodyPost_ret (v := .tuple #[.agg #[.slice none 0 0], .int .i64 (soundE c)]) (by simp [results, Try.results38, go_sem, c5]) rfl ⟨rfl, T.set0 (by omega) _⟩

set_option maxRecDepth 100000 in
set_option maxHeartbeats 1000000 in
theorem rrenew21_list (w : World) (vc v : Value) (c l : List Mb) (hc : Ms w vc c) (h : Ms w v l) (hb : l.length * 24 ≤ 140737488351232) (hE : soundE c = 0) (hL : weighE l ≠ 0) : Calls Try.prog 38 #[.agg #[vc], v] w fun e w' => e = .returned (.tuple #[.agg #[.slice none 0 0], .int .i64 (weighE l)]) ∧ Turn no w w' := by
  have T0 : Turn no w ((w.alloc (.cells #[vc] 24)).alloc (.cells #[.slice none 0 0] 24)) := ((Turn.refl no w).alloc _).alloc _
  have B1 := Bx.new (w.alloc (.cells #[vc] 24)) (.slice none 0 0) 24
  rw [show (w.alloc (.cells #[vc] 24)).heap.size = w.heap.size + 1 by simp] at B1
  have hso := rsound24 _ vc c (hc.turn_no T0)
  rw [hE] at hso
  have hwe := fun W (T : Turn no w W) => rnew16_no W v l (h.turn_no T) hb hL
  have hne : (weighE l == 0) = false := by simp; exact hL
  clear h hc
  go_enter Try.func38, Try.ntmps38
  go_wp2_with fail
  refine hso.mono ?_
  rintro e w1 ⟨rfl, T1⟩
  have B2 := B1.turn_no T1
  have T := T0.then_no T1
  have hwe := hwe w1 T
  clear hso B1
  go_wp2_with fail
  refine hwe.mono ?_
  rintro e w2 ⟨rfl, T2⟩
  have TA : Turn no w2 (w2.alloc (.cells #[.slice none 0 0] 24)) := (Turn.refl no w2).alloc _
  have hlt := (B2.turn_no T2).lt
  have B2 := (B2.turn_no T2).turn_no TA
  have T := (T.then_no T2).then_no TA
  have c4 := B2.c
  have f4 := B2.f
  have c5 := B2.set (.slice none 0 0)
  have Tf := T.set0 (g := w.heap.size + 1) (by omega) (.slice none 0 0)
  clear hwe B2 hlt
  go_wp2_with fail
  exact bodyPost_ret (v := .tuple #[.agg #[.slice none 0 0], .int .i64 (weighE l)]) (by simp [results, Try.results38, go_sem, c5]) rfl ⟨rfl, Tf⟩

theorem tk_zeroed (c l : List Mb) (t : Nat) : (zeroed l).map (tkM c t) = l.map (tkM c t) := by simp [zeroed, tkM, Function.comp_def]

set_option maxRecDepth 100000 in
set_option maxHeartbeats 2000000 in
theorem rrenew21_yes (w : World) (vc v : Value) (c l : List Mb) (hc : Ms w vc c) (h : Ms w v l) (hE : soundE c = 0) (hL : weighE l = 0) : Calls Try.prog 38 #[.agg #[vc], v] w fun e w' => ∃ u, e = .returned (.tuple #[.agg #[u], .int .i64 0]) ∧ Made w.heap.size w' u (renewL c l) ∧ Turn no w w' := by
  have T0 : Turn no w ((w.alloc (.cells #[vc] 24)).alloc (.cells #[.slice none 0 0] 24)) := ((Turn.refl no w).alloc _).alloc _
  have B0 := (Bx.new w vc 24).turn_no ((Turn.refl no _).alloc (.cells #[.slice none 0 0] 24))
  have B1 := Bx.new (w.alloc (.cells #[vc] 24)) (.slice none 0 0) 24
  rw [show (w.alloc (.cells #[vc] 24)).heap.size = w.heap.size + 1 by simp] at B1
  have hz0 : w.heap.size + 1 < ((w.alloc (.cells #[vc] 24)).alloc (.cells #[.slice none 0 0] 24)).heap.size := by simp
  have hso := rsound24 _ vc c (hc.turn_no T0)
  rw [hE] at hso
  obtain ⟨hn0, hn64, _, htop⟩ := weigh_ok l hL
  have hnew := fun W (T : Turn no w W) => rnew16_yes W v l (h.turn_no T) hL
  have hpw := weigh_pw (zeroed l) (by rw [zeroed_weigh]; exact hL)
  have htz := zeroed_tot l
  have htt := tot_le_top l hL
  have hpos := tot_pos l hL
  have hA := took_abs c l (tot l) hE htt
  have hA2 := hA.narr (2 * tot l)
  have hnear := near_avg (2 * tot l) (narr (2 * tot l) (l.map (tkM c (tot l)))) (by rw [narr_len, List.length_map]; omega) (narr_near (2 * tot l) (l.map (tkM c (tot l))) (by omega))
  have hrl : Hid (renewL c l = cent (narr (2 * tot l) (l.map (tkM c (tot l))))) := rfl
  have hzm := tk_zeroed c l (tot l)
  obtain ⟨ac, capc, rfl, C⟩ := hc
  have hold : c ≠ [] := by
    intro q
    have := (weigh_ok c (sound_ok c hE).1).1
    rw [q] at this
    exact this rfl
  obtain ⟨y0, hy0⟩ : ∃ y, c[0]? = some y := by
    cases c with
    | nil => exact absurd rfl hold
    | cons y r => exact ⟨y, rfl⟩
  obtain ⟨b0, o0, eac, x0, xx⟩ := C.cells 0 y0 hy0
  subst eac
  have hb0 : b0 < w.heap.size := World.block_lt_of_cell? w _ x0
  have hcle : c.length ≤ 9223372036854775807 := by have := C.le; have := C.cap; simp only [maxLen] at this; omega
  clear h x0 xx hy0 hold hE hL
  obtain ⟨t, ht⟩ : ∃ t, Hid (tot l = t) := ⟨_, rfl⟩
  have ht' : tot l = t := ht.out
  rw [ht'] at htt hpos hA hA2 hnear hrl hzm htop htz
  have hln0 := zeroed_len l
  have hln1 : (l.map (tkM c t)).length = l.length := List.length_map _
  have hln2 := narr_len (2 * t) (l.map (tkM c t))
  rw [hln1] at hln2
  rw [hln2] at hnear
  obtain ⟨nc, hnc⟩ : ∃ nc, Hid (c.length = nc) := ⟨_, rfl⟩
  have hnc' : c.length = nc := hnc.out
  obtain ⟨n, hn⟩ : ∃ n, Hid (l.length = n) := ⟨_, rfl⟩
  have hn' : l.length = n := hn.out
  rw [hn'] at hn0 hn64 hln0 hln1 hln2 hnear
  rw [hnc'] at hso T0 B0 B1 hz0 hcle ⊢
  clear ht' hn' hnc'
  have ht2 : (t : Int) ≤ 1152921504606846975 := by omega
  obtain ⟨z, hz⟩ : ∃ z, Hid (zeroed l = z) := ⟨_, rfl⟩
  rw [show zeroed l = z from hz.out] at hnew hpw htz hzm hln0
  go_enter Try.func38, Try.ntmps38
  go_wp2_with fail
  refine hso.mono ?_
  rintro e w1 ⟨rfl, T1⟩
  have B02 := B0.turn_no T1
  have B12 := B1.turn_no T1
  have T := T0.then_no T1
  have hz1 := T1.size
  have hnew := hnew w1 T
  clear hso B0 B1
  go_wp2_with fail
  refine hnew.mono ?_
  rintro e w2 ⟨u, rfl, ⟨g, cap, eu, R, hg⟩, T2⟩
  rw [hln0] at eu
  subst eu
  have TA : Turn no w2 (w2.alloc (.cells #[.slice (some ⟨g, 0, none⟩) n cap] 24)) := (Turn.refl no w2).alloc _
  have BD := Bx.new w2 (.slice (some ⟨g, 0, none⟩) n cap) 24
  have hw2 := T2.size
  have R := R.turn_no TA
  have hgl := R.lt
  have B02 := (B02.turn_no T2).turn_no TA
  have B12 := (B12.turn_no T2).turn_no TA
  have T := (T.then_no T2).then_no TA
  have hgw : w.heap.size + 1 < g := by omega
  have hrt := rtotal50 _ (.slice (some ⟨g, 0, none⟩) n cap) z ⟨_, cap, by rw [hln0], R.at⟩ hpw
  clear hnew hg hz0 hz1
  go_wp2_with fail
  generalize w2.alloc (.cells #[.slice (some ⟨g, 0, none⟩) n cap] 24) = w3 at *
  refine hrt.mono ?_
  rintro e w4 ⟨Rt, rfl, R1, _, _, e1⟩
  have e1 := e1.symm
  subst e1
  have hRt := (R1 (by rw [htz]; exact htop)).trans htz
  subst hRt
  have C3 := C.turn_no T
  clear hrt R1 TA T1 T2 T0 C hpw
  go_wp2_with fail
  go_loopw [10] (fun x wr => ∃ k : Nat, k ≤ n ∧ x = .int .i64 k ∧ Rw wr g cap (mapTo (tkM c Rt) z k) ∧ Turn (fun b => b = g) w3 wr) (fun x _ => n - (intOf x).toNat)
  case atStart => exact ⟨0, by omega, rfl, by rw [mapTo_zero]; exact R, Turn.refl _ _⟩
  case round =>
    clear R
    obtain ⟨k, hk, rfl, R, TR⟩ := hrel
    by_cases hlt : k < n
    · obtain ⟨m, hm⟩ : ∃ m, z[k]? = some m := ⟨z[k]'(by rw [hln0]; exact hlt), List.getElem?_eq_getElem _⟩
      have hlt' : (k : Int) < (n : Int) := by omega
      have hgr := R.lt
      obtain ⟨c0, c1, c2⟩ := R.cells k m (mapTo_at _ z k m hm)
      have C4 := C3.turn TR (fun x hx => by cases hx; show b0 ≠ g; omega)
      have B4 := B02.turn TR (fun q => by omega)
      have b4 := B4.c
      have hix := fun W (hT : Turn no wr W) => rindex31 W (.slice (some ⟨b0, o0, none⟩) nc capc) c ⟨_, capc, by rw [show c.length = nc from hnc.out], C4.turn_no hT⟩ m.ad
      have hms := mapTo_succ (tkM c Rt) z k m hm
      rw [show tkM c Rt m = { m with pr := pri c Rt m.ad } from rfl] at hms
      have hspec := idx_spec c m.ad
      have hpn := pri_none c Rt m.ad
      have hps := pri_some c Rt m.ad
      have hset : ∀ (W : World) (x : Int), Turn no wr W → (-9223372036854775808 ≤ x ∧ x < 9223372036854775808) → Rw (W.setCell ⟨g, k * 3 + 2, none⟩ (.int .i64 x)) g cap ((mapTo (tkM c Rt) z k).set k { m with pr := x }) := fun W x hT hx => (R.turn_no hT).set k m (mapTo_at _ z k m hm) x hx
      have hRW := fun W (hT : Turn no wr W) => R.turn_no hT
      have hcm := fun W (hT : Turn no wr W) => (R.turn_no hT).cells k m (mapTo_at _ z k m hm)
      clear hm R
      go_wp2_with fail
      refine wp_region_held_drew (S := fun W => Turn no wr W) (by kernel_rfl) (Turn.refl _ wr).drew (fun hHeld => ?_)
      refine' wpAnyH_take (i := 0) (v := .agg #[.slice (some ⟨b0, o0, none⟩) nc capc]) rfl (by kernel_rfl) (by kernel_rfl) (by kernel_rfl) (fun _ _ _ h => h) (Or.inl ⟨by kernel_rfl, fun W hW => ?y1⟩) hHeld ?r1
      · have c := hW.keep b4 (fun q => q)
        go_simp
      refine' wpAnyH_take (i := 1) (v := .slice (some ⟨g, 0, none⟩) n cap) rfl (by kernel_rfl) (by kernel_rfl) (by kernel_rfl) (fun _ _ _ h => h) (Or.inl ⟨by kernel_rfl, fun W hW => ?y2⟩) hHeld ?r2
      · go_simp
      refine' wpAnyH_take (i := 2) (v := .int .i64 k) rfl (by kernel_rfl) (by kernel_rfl) (by kernel_rfl) (fun _ _ _ h => h) (Or.inl ⟨by kernel_rfl, fun W hW => ?y3⟩) hHeld ?r3
      · go_simp
      refine' wpAnyH_take (i := 3) (v := .pointer (some ⟨g, k * 3, none⟩)) rfl (by kernel_rfl) (by kernel_rfl) (by kernel_rfl) (fun _ _ _ h => h) (Or.inl ⟨by kernel_rfl, fun W hW => ?y4⟩) hHeld ?r4
      · go_simp
      refine' wpAnyH_take (i := 4) (v := .pointer (some ⟨g, k * 3, none⟩)) rfl (by kernel_rfl) (by kernel_rfl) (by kernel_rfl) (fun _ _ _ h => h) (Or.inl ⟨by kernel_rfl, fun W hW => ?y5⟩) hHeld ?r5
      · go_simp
      refine' wpAnyH_take (i := 5) (v := .int .u64 m.ad) rfl (by kernel_rfl) (by kernel_rfl) (by kernel_rfl) (fun _ _ _ h => h) (Or.inl ⟨by kernel_rfl, fun W hW => ?y6⟩) hHeld ?r6
      · have c := hW.keep c0 (fun q => q)
        go_simp
      refine wpAnyH_ready (rs := [6]) (by kernel_rfl) (by simp) ?_
      refine AllReadyH.cons rfl (fun K hK => ?_) AllReadyH.nil
      go_simp
      refine (hix _ hHeld).mono ?_
      rintro e w5 ⟨rfl, T5⟩
      have T5 := hHeld.then_no T5
      rcases hspec with hI | ⟨i, x, hI, hx, _⟩
      · rw [hI]
        go_wp2_with fail
        refine hK.out _ _ T5 (fun hHeld => ?_)
        clear hK
        refine wpAnyH_ready (rs := [7]) (by kernel_rfl) (by simp) ?_
        refine AllReadyH.cons rfl (fun K hK => ?_) AllReadyH.nil
        go_simp
        refine hK.out _ _ T5 (fun hHeld => ?_)
        clear hK
        refine wpAnyH_done (by kernel_rfl) ?_ _
        obtain ⟨v1, hv1⟩ : ∃ v1 : Int, Hid (-((Rt + Rt / 8 : Nat) : Int) = v1) := ⟨_, rfl⟩
        have hv2 : -((Rt : Int) + (Rt : Int) / 8) = v1 := by rw [← hv1.out]; omega
        have hv3 : -9223372036854775808 ≤ v1 ∧ v1 < 9223372036854775808 := by rw [← hv1.out]; omega
        rw [show -((Rt + Rt / 8 : Nat) : Int) = v1 from hv1.out] at hpn
        have R6 := hset w5 v1 T5 hv3
        rw [← hpn hI, hms] at R6
        rw [hpn hI] at R6
        obtain ⟨d0, d1, d2⟩ := hcm w5 T5
        have f5 := (hRW w5 T5).frozen (k * 3 + 2)
        have hg5 := (hRW w5 T5).lt
        have T6 := (TR.then_no T5).setCell (p := ⟨g, k * 3 + 2, none⟩) (fun _ => rfl) (.int .i64 v1)
        clear hset hRW hcm hms hpn hps hI hix C3 C4 hHeld c0 c1 c2 hv3
        go_wp2_with fail
        go_roundw
        case rel => exact ⟨k + 1, by omega, by go_num, R6, T6⟩
        case measure => simp [intOf]; omega
      · rw [hI]
        go_wp2_with fail
        refine hK.out _ _ T5 (fun hHeld => ?_)
        clear hK
        refine wpAnyH_ready (rs := [7]) (by kernel_rfl) (by simp) ?_
        refine AllReadyH.cons rfl (fun K hK => ?_) AllReadyH.nil
        go_simp
        refine hK.out _ _ T5 (fun hHeld => ?_)
        clear hK
        refine wpAnyH_done (by kernel_rfl) ?_ _
        have hps := hps i x hI hx
        have hil : i < nc := by rw [← hnc.out]; exact (List.getElem?_eq_some_iff.1 hx).1
        have hil' : (i : Int) < (nc : Int) := by omega
        have hok := C3.ok x (List.mem_of_getElem? hx)
        have R6 := hset w5 x.pr T5 ⟨hok.2.2.1, hok.2.2.2⟩
        rw [← hps, hms] at R6
        rw [hps] at R6
        obtain ⟨d0, d1, d2⟩ := hcm w5 T5
        obtain ⟨bc, offc, eac, x0, x1, x2⟩ := (C4.turn_no T5).cells i x hx
        cases eac
        have b5 := (B4.turn_no T5).c
        have f5 := (hRW w5 T5).frozen (k * 3 + 2)
        have hg5 := (hRW w5 T5).lt
        have T6 := (TR.then_no T5).setCell (p := ⟨g, k * 3 + 2, none⟩) (fun _ => rfl) (.int .i64 x.pr)
        clear hset hRW hcm hms hpn hps hI hix C3 C4 hHeld c0 c1 c2 hok hx
        go_wp2_with fail
        go_roundw
        case rel => exact ⟨k + 1, by omega, by go_num, R6, T6⟩
        case measure => simp [intOf]; omega
    · have hkn : k = n := by omega
      subst hkn
      have hlt' : ¬ (k : Int) < (k : Int) := by omega
      rw [mapTo_all _ z k hln0, hzm] at R
      have hdr := narrowed42 wr g cap Rt _ R (by rw [hln1]; omega) (by rw [hln1]; exact hn64) hA (by omega) (by omega)
      rw [hln1] at hdr
      have B13 := B12.turn TR (fun q => by omega)
      have TT := T.of_no.trans TR (fun _ _ q => q)
      clear C3
      go_wp2_with fail
      refine hdr.mono ?_
      rintro e w5 ⟨rfl, R5, T5⟩
      have hce := centred43 w5 g cap _ R5 (by rw [hln2]; omega) (by rw [hln2]; exact hn64) hA2 (fun m hm => by rw [hln2]; have := hnear m hm; omega)
      rw [hln2, ← hrl.out] at hce
      have B14 := B13.turn T5 (fun q => by omega)
      have TT := TT.trans T5 (fun _ _ q => q)
      clear hdr R hA hA2
      go_wp2_with fail
      refine hce.mono ?_
      rintro e w6 ⟨rfl, R6, T6⟩
      have B15 := B14.turn T6 (fun q => by omega)
      have TT := TT.trans T6 (fun _ _ q => q)
      have c4 := B15.c
      have f4 := B15.f
      have c5 := B15.set (.slice (some ⟨g, 0, none⟩) k cap)
      have Tw : Turn no w w6 := TT.mono (fun b hb q => by omega)
      have R7 := R6.turn ((Turn.refl (fun b => b = w.heap.size + 1) w6).setCell (p := ⟨w.heap.size + 1, 0, none⟩) (fun _ => rfl) (.slice (some ⟨g, 0, none⟩) k cap)) (fun q => by omega)
      have MD : Made w.heap.size (w6.setCell ⟨w.heap.size + 1, 0, none⟩ (.slice (some ⟨g, 0, none⟩) k cap)) (.slice (some ⟨g, 0, none⟩) k cap) (renewL c l) := ⟨g, cap, by rw [renew_len, show l.length = k from hn.out], R7, by omega⟩
      have T8 := Tw.set0 (g := w.heap.size + 1) (by omega) (.slice (some ⟨g, 0, none⟩) k cap)
      clear hce R5 R6 R7 hnear B13 B14 B15 TT Tw
      go_wp2_with fail
      exact bodyPost_ret (v := .tuple #[.agg #[.slice (some ⟨g, 0, none⟩) k cap], .int .i64 0]) (by simp [results, Try.results38, go_sem, c5]) rfl ⟨_, rfl, MD, T8⟩
end Go.Proofs.Ytbhimedajfkioaa
