/- Texts in one. -/
import Derived.Test.YtaoigopjfelgpaaGreatDoorBase
import Derived.Test.YtaoigopjfelgpaaGreatDoorRows
import Derived.Test.YtaoigopjfelgpaaGreatDoorEa
import Derived.Test.YtaoigopjfelgpaaGreatDoorInnersW
/- The greatest power of two below a number, as the program and as the reference find it. -/
namespace Go.Proofs.YtaoigopjfelgpaaGreatDoor
open Go.RowKit
set_option linter.unusedVariables false

theorem idx_str (s : ByteArray) (k : IntKind) (x : Nat) (b : UInt8) (h : s[x]? = some b) (w : World) : (Instr.index 9 (.string s) (.int k (x : Int))).run Tryz.prog w = .ok (.int .u8 b.toNat) w := by
  simp [Instr.index, run_underlying Tryz.underlying9, asIntOf, h]

theorem wrap64_small (n : Nat) (h : n < 9223372036854775808) : wrap64 (n : Int) = (n : Int) := by
  unfold wrap64
  omega

set_option maxRecDepth 100000 in
set_option maxHeartbeats 4000000 in
theorem len64_low (w : World) (x : Nat) (h1 : 1 ≤ x) (hx : x < 256) : Calls Tryz.prog 87 #[.int .u64 x] w fun e w' => e = .returned (.int .i64 ((Nat.log2 x + 1 : Nat) : Int)) ∧ w' = w := by
  have a1 : ¬ (4294967296 : Int) ≤ (x : Int) := by omega
  have a2 : ¬ (65536 : Int) ≤ (x : Int) := by omega
  have a3 : ¬ (256 : Int) ≤ (x : Int) := by omega
  go_enter Tryz.func87, Tryz.ntmps87
  go_wp2_with fail
  go_ret
  refine ⟨?_, rfl⟩
  have hb : ∀ b : UInt8, b = UInt8.ofNat (x.log2 + 1) → Value.int .i64 (wrap64 (wrap64 ((b.toNat : Nat) : Int))) = Value.int .i64 ((x.log2 + 1 : Nat) : Int) := fun b hb => by
    have h8 : x.log2 < 8 := (Nat.log2_lt (by omega)).2 (by omega)
    have : b.toNat = x.log2 + 1 := by rw [hb]; simp; omega
    rw [this, wrap64_small _ (by omega), wrap64_small _ (by omega)]
  refine congrArg Ending.returned (hb _ ?_)
  rw [← getElem!_pos _ x _]
  clear a1 a2 a3 hb w
  obtain ⟨y, rfl⟩ : ∃ y : Fin 256, y.val = x := ⟨⟨x, hx⟩, rfl⟩
  clear hx
  revert y
  decide +kernel

set_option maxRecDepth 100000 in
set_option maxHeartbeats 4000000 in
theorem len64_high (w : World) (x y : Nat) (hy : x / 256 = y) (h1 : 256 ≤ x) (hx : x < 65536) : Calls Tryz.prog 87 #[.int .u64 x] w fun e w' => e = .returned (.int .i64 ((Nat.log2 y + 1 + 8 : Nat) : Int)) ∧ w' = w := by
  have a1 : ¬ (4294967296 : Int) ≤ (x : Int) := by omega
  have a2 : ¬ (65536 : Int) ≤ (x : Int) := by omega
  have a3 : (256 : Int) ≤ (x : Int) := by omega
  have a4 : (x : Int) / 256 = (y : Int) := by omega
  have a5 : (y : Int) < 256 := by omega
  have hy1 : 1 ≤ y := by omega
  have hy2 : y < 256 := by omega
  clear hy h1 hx
  go_enter Tryz.func87, Tryz.ntmps87
  go_wp2_with fail
  go_ret
  refine ⟨?_, rfl⟩
  have hb : ∀ b : UInt8, b = UInt8.ofNat (y.log2 + 1) → Value.int .i64 (wrap64 (8 + wrap64 ((b.toNat : Nat) : Int))) = Value.int .i64 ((y.log2 : Int) + 1 + 8) := fun b hb => by
    have h8 : y.log2 < 8 := (Nat.log2_lt (by omega)).2 (by omega)
    have : b.toNat = y.log2 + 1 := by rw [hb]; simp; omega
    rw [this, wrap64_small _ (by omega), show (8 : Int) + ((y.log2 + 1 : Nat) : Int) = ((y.log2 + 1 + 8 : Nat) : Int) by omega, wrap64_small _ (by omega)]
    simp
  refine congrArg Ending.returned (hb _ ?_)
  rw [← getElem!_pos _ y _]
  clear a1 a2 a3 a4 a5 hb w
  obtain ⟨i, rfl⟩ : ∃ i : Fin 256, i.val = y := ⟨⟨y, hy2⟩, rfl⟩
  clear hy2
  revert i
  decide +kernel

theorem log2_high (x : Nat) (h : 256 ≤ x) : x.log2 = (x / 256).log2 + 8 := by
  apply (Nat.log2_eq_iff (by omega)).2
  have h1 := Nat.log2_self_le (n := x / 256) (by omega)
  have h2 := Nat.lt_log2_self (n := x / 256)
  rw [show (x / 256).log2 + 8 + 1 = ((x / 256).log2 + 1) + 8 by omega, Nat.pow_add, Nat.pow_add]
  omega

theorem len64_any (w : World) (x : Nat) (h1 : 1 ≤ x) (hx : x < 65536) : Calls Tryz.prog 87 #[.int .u64 x] w fun e w' => e = .returned (.int .i64 ((Nat.log2 x + 1 : Nat) : Int)) ∧ w' = w := by
  by_cases h8 : 256 ≤ x
  · have := len64_high w x _ rfl h8 hx
    rw [show (x / 256).log2 + 1 + 8 = x.log2 + 1 by rw [log2_high x h8]] at this
    exact this
  · exact len64_low w x h1 (by omega)

set_option maxRecDepth 100000 in
set_option maxHeartbeats 4000000 in
theorem len_any (w : World) (x : Nat) (h1 : 1 ≤ x) (hx : x < 65536) : Calls Tryz.prog 60 #[.int .u64 x] w fun e w' => e = .returned (.int .i64 ((Nat.log2 x + 1 : Nat) : Int)) ∧ w' = w := by
  have hc := fun W => len64_any W x h1 hx
  generalize x.log2 + 1 = L at *
  go_enter Tryz.func60, Tryz.ntmps60
  go_wp2_with fail
  refine (hc _).mono ?_
  rintro e w1 ⟨rfl, rfl⟩
  go_wp2_with fail
  go_ret
  exact ⟨rfl, rfl⟩

/-- The reference's: it doubles. -/
def dbl (n : Nat) : Nat → Nat → Nat
  | 0, k => k
  | f + 1, k => if k < n - k then dbl n f (2 * k) else k
theorem dbl_pow (n : Nat) : ∀ (f j : Nat), n ≤ 2 ^ (j + f) → ∃ i, dbl n f (2 ^ j) = 2 ^ i ∧ j ≤ i ∧ (2 ^ j < n - 2 ^ j ∨ i = j) ∧ ¬ 2 ^ i < n - 2 ^ i ∧ (i = j ∨ 2 ^ i < n)
  | 0, j, h => ⟨j, rfl, Nat.le_refl _, Or.inr rfl, by simp at h; omega, Or.inl rfl⟩
  | f + 1, j, h => by
    unfold dbl
    by_cases hc : 2 ^ j < n - 2 ^ j
    · rw [if_pos hc]
      obtain ⟨i, e1, e2, _, e4, e5⟩ := dbl_pow n f (j + 1) (by rwa [show j + 1 + f = j + (f + 1) by omega])
      rw [show 2 * 2 ^ j = 2 ^ (j + 1) by rw [Nat.pow_succ]; omega]
      refine ⟨i, e1, by omega, Or.inl hc, e4, ?_⟩
      rcases e5 with e5 | e5
      · right; rw [e5, Nat.pow_succ]; omega
      · right; exact e5
    · rw [if_neg hc]
      exact ⟨j, rfl, Nat.le_refl _, Or.inr rfl, hc, Or.inl rfl⟩
/-- The greatest power of two below n, n above 1. -/
def splitN (n : Nat) : Nat := 2 ^ Nat.log2 (n - 1)
theorem dbl_split (n f : Nat) (h2 : 2 ≤ n) (hf : n ≤ 2 ^ f) : dbl n f 1 = splitN n := by
  obtain ⟨i, e1, _, e3, e4, e5⟩ := dbl_pow n f 0 (by simpa using hf)
  rw [Nat.pow_zero] at e1
  rw [e1, splitN]
  congr 1
  have hlt : 2 ^ i < n := by
    rcases e5 with e5 | e5
    · subst e5; simp; omega
    · exact e5
  symm
  apply (Nat.log2_eq_iff (by omega)).2
  rw [Nat.pow_succ]
  omega

set_option maxRecDepth 100000 in
set_option maxHeartbeats 4000000 in
theorem split_any (w : World) (n : Nat) (h2 : 2 ≤ n) (hn : n ≤ 65536) : Calls Tryz.prog 95 #[.int .i64 n] w fun e w' => e = .returned (.int .i64 (splitN n)) ∧ w' = w := by
  obtain ⟨x, hx⟩ : ∃ x, n = x + 1 := ⟨n - 1, by omega⟩
  have hc := fun W => len_any W x (by omega) (by omega)
  have hsp : splitN n = 2 ^ x.log2 := by rw [splitN, hx]; rfl
  have hl16 : x.log2 < 16 := (Nat.log2_lt (by omega)).2 (by omega)
  rw [hsp]
  subst hx
  generalize x.log2 = L at *
  have hL : (L : Int) < 16 := by omega
  clear hsp h2
  go_enter Tryz.func95, Tryz.ntmps95
  go_wp2_with fail
  refine (hc _).mono ?_
  rintro e w1 ⟨rfl, rfl⟩
  go_wp2_with fail
  go_ret
  have hp : 2 ^ L ≤ 2 ^ 15 := Nat.pow_le_pow_right (by omega) (by omega)
  refine ⟨?_, rfl⟩
  have e1 : ((2 : Int) ^ L) = ((2 ^ L : Nat) : Int) := by simp
  show Ending.returned (Value.int .i64 (wrap64 (2 ^ L))) = _
  rw [e1, wrap64_small _ (by omega)]

theorem split_of (n j : Nat) (h2 : 2 ≤ n) (h1 : j = 0 ∨ 2 ^ j < n) (h3 : ¬ 2 ^ j < n - 2 ^ j) : 2 ^ j = splitN n := by
  have hlt : 2 ^ j < n := by
    rcases h1 with rfl | h1
    · simp; omega
    · exact h1
  rw [splitN]
  congr 1
  symm
  apply (Nat.log2_eq_iff (by omega)).2
  rw [Nat.pow_succ]
  omega

set_option maxRecDepth 100000 in
set_option maxHeartbeats 4000000 in
theorem rsplit_any (w : World) (n : Nat) (h2 : 2 ≤ n) (hn : n ≤ 65536) : Calls Tryz.prog 101 #[.int .i64 n] w fun e w' => e = .returned (.int .i64 (splitN n)) ∧ w' = w := by
  have hso := split_of n
  go_enter Tryz.func101, Tryz.ntmps101
  go_wp2_with fail
  go_loop [3] (fun i => ∃ j k : Nat, i = .int .i64 k ∧ k = 2 ^ j ∧ 1 ≤ k ∧ (j = 0 ∨ k < n)) (fun i => n - (intOf i).toNat)
  case atStart => exact ⟨0, 1, rfl, rfl, Nat.le_refl _, Or.inl rfl⟩
  case round =>
    obtain ⟨j, k, rfl, hk, hk1, hj⟩ := hrel
    have hkn : k < n := by rcases hj with rfl | hj; · simp at hk; omega
                           · exact hj
    by_cases hlt : k < n - k
    · have hlt' : (k : Int) < (n : Int) - (k : Int) := by omega
      have hpow : 2 * k = 2 ^ (j + 1) := by rw [hk, Nat.pow_succ]; omega
      clear hso hk
      go_wp2_with fail
      go_round
      case rel => exact ⟨j + 1, 2 * k, by go_num, hpow, by omega, Or.inr (by omega)⟩
      case measure => simp [intOf]; omega
    · have hlt' : ¬ (k : Int) < (n : Int) - (k : Int) := by omega
      have e : k = splitN n := by rw [hk]; exact hso j h2 (by rw [← hk]; exact hj) (by rw [← hk]; exact hlt)
      clear hso hk
      go_wp2_with fail
      go_ret
      exact ⟨rfl, rfl⟩
end Go.Proofs.YtaoigopjfelgpaaGreatDoor



/- How long a place's way is, as the program and as the reference count it. -/
namespace Go.Proofs.YtaoigopjfelgpaaGreatDoor
open Go.RowKit
set_option linter.unusedVariables false

theorem splitN_pos (n : Nat) : 1 ≤ splitN n := Nat.one_le_two_pow
theorem splitN_lt (n : Nat) (h : 2 ≤ n) : splitN n < n := by
  have := Nat.log2_self_le (n := n - 1) (by omega)
  unfold splitN
  omega

def stepsF : Nat → Nat → Nat → Nat
  | 0, _, _ => 0
  | f + 1, n, a => if n ≤ 1 then 0 else if a < splitN n then stepsF f (splitN n) a + 1 else stepsF f (n - splitN n) (a - splitN n) + 1
theorem stepsF_more : ∀ (f n a : Nat), n ≤ f → stepsF (f + 1) n a = stepsF f n a
  | 0, n, a, h => by
    show (if n ≤ 1 then 0 else _) = 0
    rw [if_pos (by omega)]
  | f + 1, n, a, h => by
    show (if n ≤ 1 then 0 else if a < splitN n then stepsF (f + 1) (splitN n) a + 1 else stepsF (f + 1) (n - splitN n) (a - splitN n) + 1) = (if n ≤ 1 then 0 else if a < splitN n then stepsF f (splitN n) a + 1 else stepsF f (n - splitN n) (a - splitN n) + 1)
    by_cases h1 : n ≤ 1
    · rw [if_pos h1, if_pos h1]
    · have h2 := splitN_lt n (by omega)
      have h3 := splitN_pos n
      rw [if_neg h1, if_neg h1, stepsF_more f (splitN n) a (by omega), stepsF_more f (n - splitN n) (a - splitN n) (by omega)]
theorem stepsF_ge (n a d : Nat) : stepsF (n + d) n a = stepsF n n a := by
  induction d with
  | zero => rfl
  | succ d ih => rw [← Nat.add_assoc, stepsF_more (n + d) n a (by omega), ih]
/-- How long a place's way is. -/
def stepsN (n a : Nat) : Nat := stepsF n n a
theorem stepsF_eq (f n a : Nat) (h : n ≤ f) : stepsF f n a = stepsN n a := by
  obtain ⟨d, rfl⟩ : ∃ d, f = n + d := ⟨f - n, by omega⟩
  exact stepsF_ge n a d
theorem stepsN_one (at' : Nat) : stepsN 1 at' = 0 := rfl
theorem stepsN_low (n at' : Nat) (h : n ≤ 1) : stepsN n at' = 0 := by
  match n, h with
  | 0, _ => rfl
  | 1, _ => rfl
theorem stepsN_left (n at' : Nat) (h : 2 ≤ n) (ha : at' < splitN n) : stepsN n at' = stepsN (splitN n) at' + 1 := by
  obtain ⟨m, rfl⟩ : ∃ m, n = m + 1 := ⟨n - 1, by omega⟩
  have h2 := splitN_lt (m + 1) (by omega)
  show (if m + 1 ≤ 1 then 0 else if at' < splitN (m + 1) then stepsF m (splitN (m + 1)) at' + 1 else stepsF m (m + 1 - splitN (m + 1)) (at' - splitN (m + 1)) + 1) = _
  rw [if_neg (by omega), if_pos ha, stepsF_eq _ _ _ (by omega)]
theorem stepsN_right (n at' : Nat) (h : 2 ≤ n) (ha : ¬ at' < splitN n) : stepsN n at' = stepsN (n - splitN n) (at' - splitN n) + 1 := by
  obtain ⟨m, rfl⟩ : ∃ m, n = m + 1 := ⟨n - 1, by omega⟩
  have h2 := splitN_pos (m + 1)
  show (if m + 1 ≤ 1 then 0 else if at' < splitN (m + 1) then stepsF m (splitN (m + 1)) at' + 1 else stepsF m (m + 1 - splitN (m + 1)) (at' - splitN (m + 1)) + 1) = _
  rw [if_neg (by omega), if_neg ha, stepsF_eq _ _ _ (by omega)]
theorem stepsN_le (n at' : Nat) : stepsN n at' ≤ n := by
  induction n using Nat.strongRecOn generalizing at' with
  | _ n ih =>
    by_cases h : n ≤ 1
    · rw [stepsN_low n at' h]; omega
    · have h1 := splitN_lt n (by omega)
      have h2 := splitN_pos n
      by_cases ha : at' < splitN n
      · rw [stepsN_left n at' (by omega) ha]
        have := ih (splitN n) h1 at'
        omega
      · rw [stepsN_right n at' (by omega) ha]
        have := ih (n - splitN n) (by omega) (at' - splitN n)
        omega

end Go.Proofs.YtaoigopjfelgpaaGreatDoor



/- A list's top, as the reference finds it. -/
namespace Go.Proofs.YtaoigopjfelgpaaGreatDoor
open Go.RowKit
set_option linter.unusedVariables false

def topF : Nat → List (List UInt8) → List UInt8
  | 0, _ => hashOf []
  | f + 1, l => if l.length = 0 then hashOf [] else if l.length = 1 then hashOf (0 :: l.headD []) else hashOf (1 :: (topF f (l.take (splitN l.length)) ++ topF f (l.drop (splitN l.length))))
theorem topF_more : ∀ (f : Nat) (l : List (List UInt8)), l.length ≤ f → topF (f + 1) l = topF f l
  | 0, l, h => by
    show (if l.length = 0 then hashOf [] else _) = hashOf []
    rw [if_pos (by omega)]
  | f + 1, l, h => by
    show (if l.length = 0 then hashOf [] else if l.length = 1 then hashOf (0 :: l.headD []) else hashOf (1 :: (topF (f + 1) (l.take (splitN l.length)) ++ topF (f + 1) (l.drop (splitN l.length))))) = (if l.length = 0 then hashOf [] else if l.length = 1 then hashOf (0 :: l.headD []) else hashOf (1 :: (topF f (l.take (splitN l.length)) ++ topF f (l.drop (splitN l.length)))))
    by_cases h0 : l.length = 0
    · rw [if_pos h0, if_pos h0]
    · by_cases h1 : l.length = 1
      · rw [if_neg h0, if_neg h0, if_pos h1, if_pos h1]
      · have h2 := splitN_lt l.length (by omega)
        have h3 := splitN_pos l.length
        rw [if_neg h0, if_neg h0, if_neg h1, if_neg h1, topF_more f (l.take (splitN l.length)) (by simp; omega), topF_more f (l.drop (splitN l.length)) (by simp; omega)]
/-- A list's top. -/
def topH (l : List (List UInt8)) : List UInt8 := topF l.length l
theorem topF_eq (f : Nat) (l : List (List UInt8)) (h : l.length ≤ f) : topF f l = topH l := by
  obtain ⟨d, rfl⟩ : ∃ d, f = l.length + d := ⟨f - l.length, by omega⟩
  induction d with
  | zero => rfl
  | succ d ih => rw [← Nat.add_assoc, topF_more _ l (by omega)]; exact ih (by omega)
theorem topF_len : ∀ (f : Nat) (l : List (List UInt8)), (topF f l).length = 32
  | 0, l => hashOf_len _
  | f + 1, l => by
    show (if l.length = 0 then hashOf [] else if l.length = 1 then hashOf (0 :: l.headD []) else hashOf (1 :: (topF f (l.take (splitN l.length)) ++ topF f (l.drop (splitN l.length))))).length = 32
    split
    · exact hashOf_len _
    · split
      · exact hashOf_len _
      · exact hashOf_len _
theorem topH_len (l : List (List UInt8)) : (topH l).length = 32 := topF_len _ l
theorem topH_none (l : List (List UInt8)) (h : l.length = 0) : topH l = hashOf [] := by
  unfold topH
  rw [h]
  rfl
theorem topH_one (l : List (List UInt8)) (h : l.length = 1) : topH l = hashOf (0 :: l.headD []) := by
  unfold topH
  rw [h]
  show (if l.length = 0 then hashOf [] else if l.length = 1 then hashOf (0 :: l.headD []) else _) = _
  rw [if_neg (by omega), if_pos h]
theorem topH_more (l : List (List UInt8)) (h : 2 ≤ l.length) : topH l = hashOf (1 :: (topH (l.take (splitN l.length)) ++ topH (l.drop (splitN l.length)))) := by
  obtain ⟨m, hm⟩ : ∃ m, l.length = m + 1 := ⟨l.length - 1, by omega⟩
  have h2 := splitN_lt l.length (by omega)
  have h3 := splitN_pos l.length
  have e : topH l = topF (m + 1) l := by unfold topH; rw [hm]
  rw [e]
  show (if l.length = 0 then hashOf [] else if l.length = 1 then hashOf (0 :: l.headD []) else hashOf (1 :: (topF m (l.take (splitN l.length)) ++ topF m (l.drop (splitN l.length))))) = _
  rw [if_neg (by omega), if_neg (by omega), topF_eq m _ (by simp; omega), topF_eq m _ (by simp; omega)]

theorem Pcs.take {w : World} {b o : Nat} {l : List (Value × List UInt8)} (h : Pcs w b o l) (k : Nat) : Pcs w b o (l.take k) := fun j x hx => h j x (by
  rw [List.getElem?_take] at hx
  split at hx
  · exact hx
  · cases hx)
theorem Pcs.drop {w : World} {b o : Nat} {l : List (Value × List UInt8)} (h : Pcs w b o l) (k : Nat) : Pcs w b (o + k) (l.drop k) := fun j x hx => by
  rw [List.getElem?_drop] at hx
  have := h (k + j) x hx
  rwa [← Nat.add_assoc] at this

/-- A digest's bytes as a value. -/
def hb32 (X : List UInt8) : Array Value := (X.map bv).toArray

set_option maxRecDepth 100000 in
set_option maxHeartbeats 4000000 in
theorem rtop_any (n : Nat) : ∀ (l : List (Value × List UInt8)) (b o cap : Nat) (w : World), l.length = n → Pcs w b o l → n ≤ cap → 1 ≤ n → n ≤ 65536 → (∀ x ∈ l, x.2.length ≤ 1048576) → Laid0 w → 2 ≤ w.heap.size →
    Calls Tryz.prog 102 #[.slice (some ⟨b, o, none⟩) n cap] w fun e w' => e = .returned (.agg (hb32 (topH (l.map (·.2))))) ∧ Turn no w w' := by
  induction n using Nat.strongRecOn with
  | _ n ih =>
    intro l b o cap w hln hP hcap h1 h2 hx hl hsz
    obtain ⟨z, hz, hzs⟩ : ∃ z : Array Value, z = #[.int .u8 0, .int .u8 0, .int .u8 0, .int .u8 0, .int .u8 0, .int .u8 0, .int .u8 0, .int .u8 0, .int .u8 0, .int .u8 0, .int .u8 0, .int .u8 0, .int .u8 0, .int .u8 0, .int .u8 0, .int .u8 0, .int .u8 0, .int .u8 0, .int .u8 0, .int .u8 0, .int .u8 0, .int .u8 0, .int .u8 0, .int .u8 0, .int .u8 0, .int .u8 0, .int .u8 0, .int .u8 0, .int .u8 0, .int .u8 0, .int .u8 0, .int .u8 0] ∧ z.size = 32 := ⟨_, rfl, rfl⟩
    have T0 : Turn no w (w.alloc (.cells z 40)) := (Turn.refl no w).alloc _
    have RZ := Row.new w z 40
    by_cases h : n = 1
    · subst h
      match l, hln with
      | [x], _ =>
        have hp := (hP.turn_no T0) 0 x rfl
        obtain ⟨xv, xb⟩ := x
        have hxb : xb.length ≤ 1048576 := hx (xv, xb) (by simp)
        simp only at hp
        rw [show topH ([(xv, xb)].map (·.2)) = hashOf (0 :: xb) from topH_one _ rfl]
        have hc := leaf21 _ xv xb hp.2 (hl.turn T0 (fun q => q)) (by have := T0.size; omega) (by omega)
        have c0 : w.cell? ⟨b, o, none⟩ = some xv := by have := (hP 0 (xv, xb) rfl).1; simpa using this
        have hbw : b < w.heap.size := World.block_lt_of_cell? w _ c0
        have hs := hv_size (0 :: xb)
        have h1' := hv_one (0 :: xb)
        have hi := hv_info (0 :: xb)
        have hh : hb32 (hashOf (0 :: xb)) = hv (0 :: xb) := rfl
        rw [hh]
        obtain ⟨ax, cx, rfl⟩ := hp.2.slice
        clear hh hp hx hP ih
        generalize hv (0 :: xb) = H at *
        rw [hz] at T0 RZ hc
        go_enter Tryz.func102, Tryz.ntmps102
        go_wp2_with fail
        refine hc.mono ?_
        rintro e w2 ⟨rfl, t2⟩
        have RZ2 := RZ.turn t2 (fun q => q)
        have T2 := T0.then_no t2
        go_wp2_with (refine wpList_store_row rfl 40 (.tmp 2) (.tmp 16) rfl w.heap.size H rfl rfl 40 _ RZ2 hi (by rw [hs]; rfl) h1' ?_)
        refine bodyPost_ret (v := .agg H) ?_ rfl ⟨rfl, T2.setRow _ _ (fun q => by omega)⟩
        exact results_cell_row (P := Tryz.prog) Tryz.results102 _ _ w.heap.size 40 H (0, 0) _ rfl (setRow_heap _ _ _ _ _ _ RZ2) Tryz.underlying40 rfl hi
    · have hk1 := splitN_lt n (by omega)
      have hk2 := splitN_pos n
      have hbw : b < w.heap.size := by
        have := (hP 0 l[0] (by simp)).1
        exact World.block_lt_of_cell? w _ this
      have hsp := fun W => rsplit_any W n (by omega) h2
      have htk : (l.map (·.2)).take (splitN n) = (l.take (splitN n)).map (·.2) := by rw [List.map_take]
      have hdk : (l.map (·.2)).drop (splitN n) = (l.drop (splitN n)).map (·.2) := by rw [List.map_drop]
      have hml : (l.map (·.2)).length = n := by simpa using hln
      have htop := topH_more (l.map (·.2)) (by omega)
      rw [hml, htk, hdk] at htop
      rw [htop]
      have r1 := fun W (T : Turn no w W) => ih (splitN n) hk1 (l.take (splitN n)) b o cap W (by simp; omega) ((hP.turn_no T).take _) (by omega) hk2 (by omega) (fun x hx' => hx x (List.mem_of_mem_take hx')) (hl.turn T (fun q => q)) (by have := T.size; omega)
      have r2 := fun W (T : Turn no w W) => ih (n - splitN n) (by omega) (l.drop (splitN n)) b (o + splitN n) (cap - splitN n) W (by simp; omega) ((hP.turn_no T).drop _) (by omega) (by omega) (by omega) (fun x hx' => hx x (List.mem_of_mem_drop hx')) (hl.turn T (fun q => q)) (by have := T.size; omega)
      have lA := topH_len ((l.take (splitN n)).map (·.2))
      have lB := topH_len ((l.drop (splitN n)).map (·.2))
      generalize topH ((l.take (splitN n)).map (·.2)) = X at *
      generalize topH ((l.drop (splitN n)).map (·.2)) = Y at *
      have hin := fun W (T : Turn no w W) => inner14 W X Y lA lB (hl.turn T (fun q => q)) (by have := T.size; omega)
      have hs := hv_size (1 :: (X ++ Y))
      have h1' := hv_one (1 :: (X ++ Y))
      have hi := hv_info (1 :: (X ++ Y))
      have hh : hb32 (hashOf (1 :: (X ++ Y))) = hv (1 :: (X ++ Y)) := rfl
      rw [hh]
      have sA : (hb32 X).size = 32 := by simpa [hb32] using lA
      have sB : (hb32 Y).size = 32 := by simpa [hb32] using lB
      have oA : (hb32 X).all (·.oneCell') = true := by simp [hb32, bv, Value.oneCell']
      have oB : (hb32 Y).all (·.oneCell') = true := by simp [hb32, bv, Value.oneCell']
      have iA : (Tryz.prog.info? 40).map (·.size) = some (hb32 X).size := by rw [sA]; exact size35
      have iB : (Tryz.prog.info? 40).map (·.size) = some (hb32 Y).size := by rw [sB]; exact size35
      have hin' : ∀ W, Turn no w W → Calls Tryz.prog 115 #[.agg (hb32 X), .agg (hb32 Y)] W fun e w' => e = .returned (.agg (hv (1 :: (X ++ Y)))) ∧ Turn no W w' := hin
      clear hin hh htop htk hdk hml ih hx
      generalize hv (1 :: (X ++ Y)) = H at *
      generalize hb32 X = A at *
      generalize hb32 Y = B at *
      generalize splitN n = k at *
      have hn0 : ((n : Int) == 0) = false := by simp; omega
      have hn1 : ((n : Int) == 1) = false := by simp; omega
      have hkc : (k : Int) ≤ (cap : Int) := by omega
      have hkn : (k : Int) ≤ (n : Int) := by omega
      have hkne : ¬ cap = k := by omega
      rw [hz] at T0 RZ
      go_enter Tryz.func102, Tryz.ntmps102
      go_wp2_with fail
      refine (hsp _).mono ?_
      rintro e w' ⟨rfl, rfl⟩
      go_wp2_with fail
      refine (r1 _ T0).mono ?_
      rintro e w2 ⟨rfl, t2⟩
      have RZ2 := RZ.turn t2 (fun q => q)
      have T2 := T0.then_no t2
      have hsr2 : ∀ Z, (w2.alloc (.cells Z 40)).setRow w2.heap.size A = w2.alloc (.cells A 40) := fun Z => World.setRow_alloc_new _ _ _ _
      have RZ3 := RZ2.alloc (.cells A 40)
      have RA3 := Row.new w2 A 40
      have T3 : Turn no w (w2.alloc (.cells A 40)) := T2.alloc _
      clear RZ T0 t2
      go_wp2_with (refine wpList_store_row rfl 40 (.tmp 4) (.tmp 23) rfl w2.heap.size A rfl rfl 40 _ (heap_alloc_new w2 _) iA (by rw [sA]; rfl) oA ?_)
      generalize w2.alloc (.cells A 40) = w3 at *
      generalize w2.heap.size = q4 at *
      refine (r2 _ T3).mono ?_
      rintro e w4 ⟨rfl, t4⟩
      have RZ4 := RZ3.turn t4 (fun q => q)
      have RA4 := RA3.turn t4 (fun q => q)
      have T4 := T3.then_no t4
      have hsr4 : ∀ Z, (w4.alloc (.cells Z 40)).setRow w4.heap.size B = w4.alloc (.cells B 40) := fun Z => World.setRow_alloc_new _ _ _ _
      have RZ5 := RZ4.alloc (.cells B 40)
      have RA5 := RA4.alloc (.cells B 40)
      have RB5 := Row.new w4 B 40
      have T5 : Turn no w (w4.alloc (.cells B 40)) := T4.alloc _
      clear RZ3 RA3 T3 t4 RZ2 T2
      go_wp2_with (first
        | (refine wpList_store_row rfl 40 (.tmp 5) (.tmp 27) rfl w4.heap.size B rfl rfl 40 _ (heap_alloc_new w4 _) iB (by rw [sB]; rfl) oB ?_)
        | (rw [hsr4]; refine wpList_load_row rfl 40 (.tmp 4) rfl q4 rfl 40 A (0, 0) _ RA5 Tryz.underlying40 rfl iA ?_)
        | (refine wpList_load_row rfl 40 (.tmp 4) rfl q4 rfl 40 A (0, 0) _ RA5 Tryz.underlying40 rfl iA ?_)
        | (refine wpList_load_row rfl 40 (.tmp 5) rfl w4.heap.size rfl 40 B (0, 0) _ RB5 Tryz.underlying40 rfl iB ?_))
      refine (hin' _ T5).mono ?_
      rintro e w6 ⟨rfl, t6⟩
      have RZ6 := RZ5.turn t6 (fun q => q)
      have T6 := T5.then_no t6
      go_wp2_with (refine wpList_store_row rfl 40 (.tmp 2) (.tmp 30) rfl w.heap.size H rfl rfl 40 _ RZ6 hi (by rw [hs]; rfl) h1' ?_)
      refine bodyPost_ret (v := .agg H) ?_ rfl ⟨rfl, T6.setRow _ _ (fun q => by omega)⟩
      exact results_cell_row (P := Tryz.prog) Tryz.results102 _ _ w.heap.size 40 H (0, 0) _ rfl (setRow_heap _ _ _ _ _ _ RZ6) Tryz.underlying40 rfl hi
end Go.Proofs.YtaoigopjfelgpaaGreatDoor



/- A list's top, as the program finds it. -/
namespace Go.Proofs.YtaoigopjfelgpaaGreatDoor
open Go.RowKit
set_option linter.unusedVariables false

set_option maxRecDepth 100000 in
set_option maxHeartbeats 4000000 in
theorem top_any (n : Nat) : ∀ (l : List (Value × List UInt8)) (b o cap : Nat) (w : World), l.length = n → Pcs w b o l → n ≤ cap → 1 ≤ n → n ≤ 65536 → (∀ x ∈ l, x.2.length ≤ 1048576) → Laid1 w → 2 ≤ w.heap.size →
    Calls Tryz.prog 96 #[.slice (some ⟨b, o, none⟩) n cap] w fun e w' => e = .returned (.agg (hb32 (topH (l.map (·.2))))) ∧ Turn no w w' := by
  induction n using Nat.strongRecOn with
  | _ n ih =>
    intro l b o cap w hln hP hcap h1 h2 hx hl hsz
    obtain ⟨z, hz, hzs⟩ : ∃ z : Array Value, z = #[.int .u8 0, .int .u8 0, .int .u8 0, .int .u8 0, .int .u8 0, .int .u8 0, .int .u8 0, .int .u8 0, .int .u8 0, .int .u8 0, .int .u8 0, .int .u8 0, .int .u8 0, .int .u8 0, .int .u8 0, .int .u8 0, .int .u8 0, .int .u8 0, .int .u8 0, .int .u8 0, .int .u8 0, .int .u8 0, .int .u8 0, .int .u8 0, .int .u8 0, .int .u8 0, .int .u8 0, .int .u8 0, .int .u8 0, .int .u8 0, .int .u8 0, .int .u8 0] ∧ z.size = 32 := ⟨_, rfl, rfl⟩
    have T0 : Turn no w (w.alloc (.cells z 40)) := (Turn.refl no w).alloc _
    have RZ := Row.new w z 40
    by_cases h : n = 1
    · subst h
      match l, hln with
      | [x], _ =>
        have hp := (hP.turn_no T0) 0 x rfl
        obtain ⟨xv, xb⟩ := x
        have hxb : xb.length ≤ 1048576 := hx (xv, xb) (by simp)
        simp only at hp
        rw [show topH ([(xv, xb)].map (·.2)) = hashOf (0 :: xb) from topH_one _ rfl]
        have hc := leaf20 _ xv xb hp.2 (hl.turn T0 (fun q => q)) (by have := T0.size; omega) (by omega)
        have c0 : w.cell? ⟨b, o, none⟩ = some xv := by have := (hP 0 (xv, xb) rfl).1; simpa using this
        have hbw : b < w.heap.size := World.block_lt_of_cell? w _ c0
        have hs := hv_size (0 :: xb)
        have h1' := hv_one (0 :: xb)
        have hi := hv_info (0 :: xb)
        have hh : hb32 (hashOf (0 :: xb)) = hv (0 :: xb) := rfl
        rw [hh]
        obtain ⟨ax, cx, rfl⟩ := hp.2.slice
        clear hh hp hx hP ih
        generalize hv (0 :: xb) = H at *
        rw [hz] at T0 RZ hc
        go_enter Tryz.func96, Tryz.ntmps96
        go_wp2_with fail
        refine hc.mono ?_
        rintro e w2 ⟨rfl, t2⟩
        have RZ2 := RZ.turn t2 (fun q => q)
        have T2 := T0.then_no t2
        go_wp2_with (refine wpList_store_row rfl 40 (.tmp 2) (.tmp 27) rfl w.heap.size H rfl rfl 40 _ RZ2 hi (by rw [hs]; rfl) h1' ?_)
        refine bodyPost_ret (v := .agg H) ?_ rfl ⟨rfl, T2.setRow _ _ (fun q => by omega)⟩
        exact results_cell_row (P := Tryz.prog) Tryz.results96 _ _ w.heap.size 40 H (0, 0) _ rfl (setRow_heap _ _ _ _ _ _ RZ2) Tryz.underlying40 rfl hi
    · have hk1 := splitN_lt n (by omega)
      have hk2 := splitN_pos n
      have hbw : b < w.heap.size := by
        have := (hP 0 l[0] (by simp)).1
        exact World.block_lt_of_cell? w _ this
      have hsp := fun W => split_any W n (by omega) h2
      have htk : (l.map (·.2)).take (splitN n) = (l.take (splitN n)).map (·.2) := by rw [List.map_take]
      have hdk : (l.map (·.2)).drop (splitN n) = (l.drop (splitN n)).map (·.2) := by rw [List.map_drop]
      have hml : (l.map (·.2)).length = n := by simpa using hln
      have htop := topH_more (l.map (·.2)) (by omega)
      rw [hml, htk, hdk] at htop
      rw [htop]
      have r1 := fun W (T : Turn no w W) => ih (splitN n) hk1 (l.take (splitN n)) b o cap W (by simp; omega) ((hP.turn_no T).take _) (by omega) hk2 (by omega) (fun x hx' => hx x (List.mem_of_mem_take hx')) (hl.turn T (fun q => q)) (by have := T.size; omega)
      have r2 := fun W (T : Turn no w W) => ih (n - splitN n) (by omega) (l.drop (splitN n)) b (o + splitN n) (cap - splitN n) W (by simp; omega) ((hP.turn_no T).drop _) (by omega) (by omega) (by omega) (fun x hx' => hx x (List.mem_of_mem_drop hx')) (hl.turn T (fun q => q)) (by have := T.size; omega)
      have lA := topH_len ((l.take (splitN n)).map (·.2))
      have lB := topH_len ((l.drop (splitN n)).map (·.2))
      generalize topH ((l.take (splitN n)).map (·.2)) = X at *
      generalize topH ((l.drop (splitN n)).map (·.2)) = Y at *
      have hin := fun W (T : Turn no w W) => inner13 W X Y lA lB (hl.turn T (fun q => q)) (by have := T.size; omega)
      have hs := hv_size (1 :: (X ++ Y))
      have h1' := hv_one (1 :: (X ++ Y))
      have hi := hv_info (1 :: (X ++ Y))
      have hh : hb32 (hashOf (1 :: (X ++ Y))) = hv (1 :: (X ++ Y)) := rfl
      rw [hh]
      have sA : (hb32 X).size = 32 := by simpa [hb32] using lA
      have sB : (hb32 Y).size = 32 := by simpa [hb32] using lB
      have oA : (hb32 X).all (·.oneCell') = true := by simp [hb32, bv, Value.oneCell']
      have oB : (hb32 Y).all (·.oneCell') = true := by simp [hb32, bv, Value.oneCell']
      have iA : (Tryz.prog.info? 40).map (·.size) = some (hb32 X).size := by rw [sA]; exact size35
      have iB : (Tryz.prog.info? 40).map (·.size) = some (hb32 Y).size := by rw [sB]; exact size35
      have hin' : ∀ W, Turn no w W → Calls Tryz.prog 113 #[.agg (hb32 X), .agg (hb32 Y)] W fun e w' => e = .returned (.agg (hv (1 :: (X ++ Y)))) ∧ Turn no W w' := hin
      clear hin hh htop htk hdk hml ih hx
      generalize hv (1 :: (X ++ Y)) = H at *
      generalize hb32 X = A at *
      generalize hb32 Y = B at *
      generalize splitN n = k at *
      have hn0 : ((n : Int) == 0) = false := by simp; omega
      have hn1 : ((n : Int) == 1) = false := by simp; omega
      have hkc : (k : Int) ≤ (cap : Int) := by omega
      have hkn : (k : Int) ≤ (n : Int) := by omega
      have hkne : ¬ cap = k := by omega
      rw [hz] at T0 RZ
      go_enter Tryz.func96, Tryz.ntmps96
      go_wp2_with fail
      refine (hsp _).mono ?_
      rintro e w' ⟨rfl, rfl⟩
      go_wp2_with fail
      rw [← hz] at T0 RZ ⊢
      generalize w.alloc (.cells z 40) = w0 at *
      clear hz
      refine wp_region_held_drew (S := fun w' => (∃ z, Row w' w.heap.size z 40 ∧ z.size = 32) ∧ Turn no w w') (by kernel_rfl) ⟨⟨z, RZ, hzs⟩, T0.drew⟩ (fun hHeld => ?_)
      refine' wpAnyH_take (i := 0) (v := .slice (some ⟨b, o, none⟩) n cap) rfl (by kernel_rfl) (by kernel_rfl) (by kernel_rfl) (fun _ _ _ h => h) (Or.inl ⟨by rfl, fun W hW => ?y0⟩) hHeld ?r0
      · go_simp
      refine' wpAnyH_take (i := 1) (v := .int .i64 (k : Int)) rfl (by kernel_rfl) (by kernel_rfl) (by kernel_rfl) (fun _ _ _ h => h) (Or.inl ⟨by rfl, fun W hW => ?y1⟩) hHeld ?r1
      · go_simp
      refine' wpAnyH_take (i := 2) (v := .slice (some ⟨b, o, none⟩) k cap) rfl (by kernel_rfl) (by kernel_rfl) (by kernel_rfl) (fun _ _ _ h => h) (Or.inl ⟨by rfl, fun W hW => ?y2⟩) hHeld ?r2
      · go_simp
      refine' wpAnyH_take (i := 4) (v := .slice (some ⟨b, o, none⟩) n cap) rfl (by kernel_rfl) (by kernel_rfl) (by kernel_rfl) (fun _ _ _ h => h) (Or.inl ⟨by rfl, fun W hW => ?y4⟩) hHeld ?r4
      · go_simp
      refine' wpAnyH_take (i := 5) (v := .int .i64 (k : Int)) rfl (by kernel_rfl) (by kernel_rfl) (by kernel_rfl) (fun _ _ _ h => h) (Or.inl ⟨by rfl, fun W hW => ?y5⟩) hHeld ?r5
      · go_simp
      refine' wpAnyH_take (i := 6) (v := .slice (some ⟨b, o + k, none⟩) (n - k) (cap - k)) rfl (by kernel_rfl) (by kernel_rfl) (by kernel_rfl) (fun _ _ _ h => h) (Or.inl ⟨by rfl, fun W hW => ?y6⟩) hHeld ?r6
      · go_simp
      refine wpAnyH_ready (rs := [3]) (by kernel_rfl) (by simp) ?_
      refine AllReadyH.cons rfl (fun K hK => ?_) AllReadyH.nil
      go_simp
      refine (r1 _ hHeld.2).mono ?_
      rintro e w2 ⟨rfl, t2⟩
      have H2 : (∃ z, Row w2 w.heap.size z 40 ∧ z.size = 32) ∧ Turn no w w2 := ⟨by obtain ⟨z, hz1, hz2⟩ := hHeld.1; exact ⟨z, hz1.turn t2 (fun q => q), hz2⟩, hHeld.2.then_no t2⟩
      go_wp2_with fail
      refine hK.out _ _ H2 (fun hHeld => ?_)
      clear hK
      refine wpAnyH_ready (rs := [7]) (by kernel_rfl) (by simp) ?_
      refine AllReadyH.cons rfl (fun K hK => ?_) AllReadyH.nil
      go_simp
      refine (r2 _ hHeld.2).mono ?_
      rintro e w4 ⟨rfl, t4⟩
      have H4 : (∃ z, Row w4 w.heap.size z 40 ∧ z.size = 32) ∧ Turn no w w4 := ⟨by obtain ⟨z, hz1, hz2⟩ := hHeld.1; exact ⟨z, hz1.turn t4 (fun q => q), hz2⟩, hHeld.2.then_no t4⟩
      go_wp2_with fail
      refine hK.out _ _ H4 (fun hHeld => ?_)
      clear hK
      refine wpAnyH_ready (rs := [8]) (by kernel_rfl) (by simp) ?_
      refine AllReadyH.cons rfl (fun K hK => ?_) AllReadyH.nil
      go_simp
      refine (hin' _ hHeld.2).mono ?_
      rintro e w6 ⟨rfl, t6⟩
      have H6 : (∃ z, Row w6 w.heap.size z 40 ∧ z.size = 32) ∧ Turn no w w6 := ⟨by obtain ⟨z, hz1, hz2⟩ := hHeld.1; exact ⟨z, hz1.turn t6 (fun q => q), hz2⟩, hHeld.2.then_no t6⟩
      go_wp2_with fail
      refine hK.out _ _ H6 (fun hHeld => ?_)
      clear hK
      refine wpAnyH_ready (rs := [9]) (by kernel_rfl) (by simp) ?_
      refine AllReadyH.cons rfl (fun K hK => ?_) AllReadyH.nil
      obtain ⟨z6, RZ6, hz6⟩ := hHeld.1
      have T6 := hHeld.2
      rw [if_pos (by rfl)]
      refine wp_store_row 40 _ _ rfl w.heap.size H rfl rfl 40 z6 RZ6 hi (by omega) h1' ?_
      have hz' : (w6.setRow w.heap.size H).heap[w.heap.size]? = some (.cells H 40 (0, 0)) := setRow_heap _ _ _ _ _ _ RZ6
      have T7 : Turn no w (w6.setRow w.heap.size H) := T6.setRow _ _ (fun q => by omega)
      refine hK.out _ _ ⟨⟨H, hz', hs⟩, T7⟩ (fun hHeld => ?_)
      clear hK
      refine wpAnyH_done (by kernel_rfl) ?_ _
      go_wp2_with fail
      refine bodyPost_ret (v := .agg H) ?_ rfl ⟨rfl, T7⟩
      exact results_cell_row (P := Tryz.prog) Tryz.results96 _ _ w.heap.size 40 H (0, 0) _ rfl hz' Tryz.underlying40 rfl hi
end Go.Proofs.YtaoigopjfelgpaaGreatDoor


