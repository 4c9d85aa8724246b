/- Walks: a Writer's numbers of so many bytes. -/
import Derived.Test.YtgimecdmleofeaaDoorW5
import Derived.Deep.RegionLaw
namespace Go.Proofs.YtgimecdmleofeaaDoor
open Go.RowKit
set_option linter.unusedVariables false

/-- append, as one step of a region that draws its order. -/
theorem step_append_src {P : Program} {ops : Array Oper} {o : Oper} {a : Act} {w : World} {K : Act → World → Prop} {Q : Exit → Act → World → Prop} {E : Prop} (hgd : o.guard = none) (s x : Operand) {t tx e : TypeId} {z : Value} {bytes : Nat}
    (ho : o.op = .call { callee := .builtin .append, args := #[s, x], argTypes := #[t, tx] })
    (ht : P.underlying t = some (.slice e)) (hinf : (P.info? e).map (fun i => (i.zero, i.size, i.bytes)) = some (some z, 1, bytes)) (hz : z.cells.size = 1)
    (v : Value) (xs : List Value) (hs : a.eval s = v) (hown : Own w e v xs) (xv : Value) (n : Nat) (news : List Value) (hx : a.eval x = xv) (hsrc : Src P 1 tx xv n news w)
    (hb : (xs.length + n) * bytes ≤ 140737488355328) (hm : xs.length + n ≤ maxLen)
    (hK : ∀ v' w', Own w' e v' (xs ++ news) → Grew w w' v v' → K (a.put o.dst v') w') :
    if Region.wanted o (yielded ops a.tmps) = true then Oper.wp P o a w K Q else E := by
  have hw : Region.wanted o (yielded ops a.tmps) = true := by simp [Region.wanted, hgd]
  rw [if_pos hw]
  obtain ⟨v', w', hr, h2, h3, h4⟩ := run_append_src (P := P) ht hinf hz o.type w v xs hown xv n news hsrc hb hm
  unfold Oper.wp
  simp [execOp, ho, resolve, invoke, builtin, hs, hx, hr, Result.andThen]
  exact hK v' w' h2 h3

/-- The lowest bytes of a number. -/
def leB (n k : Nat) : List UInt8 := (List.range k).map fun j => UInt8.ofNat (n / 256 ^ j)

theorem leB_succ (n k : Nat) : leB n (k + 1) = leB n k ++ [UInt8.ofNat (n / 256 ^ k)] := by
  unfold leB
  rw [List.range_succ, List.map_append]
  rfl
theorem leB_length (n k : Nat) : (leB n k).length = k := by simp [leB]

theorem wrap8 (k : Nat) (hk : k < 8) : IntKind.i64.wrap (8 * (k : Int)) = 8 * (k : Int) := by rw [IntKind.wrap_i64]; omega

theorem shr_byte (n k : Nat) : IntKind.u8.wrap ((n : Int) / 2 ^ (8 * (k : Int)).toNat) = ((UInt8.ofNat (n / 256 ^ k)).toNat : Int) := by
  have e1 : (8 * (k : Int)).toNat = 8 * k := by omega
  have e2 : (2 : Int) ^ (8 * k) = ((256 ^ k : Nat) : Int) := by
    rw [Int.pow_mul]
    simp
  rw [e1, e2, IntKind.wrap_u8]
  simp

set_option maxRecDepth 100000 in
set_option maxHeartbeats 2000000 in
theorem fixed_made (w : World) (p : Nat) (v : Value) (bs : List UInt8) (n wd : Nat) (hn : n < 18446744073709551616) (hwd : wd ≤ 8) (h : Wr w p v bs 0) (hle : bs.length + 10 ≤ 140737488355328) :
    Calls Tryd.prog 92 #[.pointer (some ⟨p, 0, none⟩), .int .u64 n, .int .i64 wd] w fun e w' => e = .returned (.tuple #[]) ∧ ∃ v', Wr w' p v' (bs ++ leB n wd) 0 ∧ Turn (wfoot p v) w w' ∧ Near w v v' := by
  have hfault := h.fault
  go_enter Tryd.func92, Tryd.ntmps92
  go_wp2_with (go_at_call 96; refine (fault_any _ _ _ hfault).mono ?_; rintro e w' ⟨rfl, rfl⟩)
  go_loopw [11] (fun c wr => ∃ (k : Nat) (v' : Value), k ≤ wd ∧ c = .int .i64 k ∧ Wr wr p v' (bs ++ leB n k) 0 ∧ Turn (wfoot p v) w wr ∧ Near w v v') (fun c _ => wd - (intOf c).toNat)
  case atStart => exact ⟨0, v, Nat.zero_le _, rfl, by simpa [leB] using h, Turn.refl _ _, Or.inl rfl⟩
  case round =>
    obtain ⟨k, v', hk, rfl, hwr, hT, hfr⟩ := hrel
    by_cases hlt : k < wd
    · have hlt' : (k : Int) < (wd : Int) := by omega
      have c1 := hwr.c1
      have hw1 := wrap8 k (by omega)
      have hl := leB_length n k
      have hpl := hwr.lt
      go_wp2_with fail
      go_region_law (refine step_append_src rfl (.tmp 18) (.tmp 24) rfl Tryd.underlying70 Tryd.info5 rfl v' ((bs ++ leB n k).map bv) (by simp [Act.eval]) (hwr.own.turn_no (((Turn.refl no wr).drew).alloc _)) _ 1 (List.map bv [UInt8.ofNat (n / 256 ^ k)]) (by simp [Act.eval]) (src_byte Tryd.underlying70 wr.drew _ _ (shr_byte n k)) (by simp; omega) (by simp [maxLen]; omega) ?_; intro v1 w1 hown1 hgrew1; have hown2 : Own w1 5 v1 (((bs ++ leB n k) ++ [UInt8.ofNat (n / 256 ^ k)]).map bv) := by simpa using hown1
                     have hA := hwr.append (((Turn.refl no wr).drew).alloc _) hown2 hgrew1 hT hfr
                     obtain ⟨a1, f1⟩ := Wr.at1 (hwr.turn_no (((Turn.refl no wr).drew).alloc _)) hgrew1
                     obtain ⟨ad, ln, cp, rfl⟩ := hown2.form
                     clear hgrew1 hown1)
      all_goals
        go_wp2_with fail
        go_roundw
        case rel => exact ⟨k + 1, _, by omega, by go_num, by rw [leB_succ, ← List.append_assoc]; exact hA.1, hA.2.1, hA.2.2⟩
        case measure => simp [intOf]; omega
    · have hlt' : ¬ (k : Int) < (wd : Int) := by omega
      have : k = wd := by omega
      subst this
      go_wp2_with fail
      go_end0
      exact ⟨rfl, _, hwr, hT, hfr⟩
end Go.Proofs.YtgimecdmleofeaaDoor


