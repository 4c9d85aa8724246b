/- The walk of DigestFresh. -/
import Derived.Test.YtnibmkenbidnfaaDoorL0
namespace Go.Proofs.YtnibmkenbidnfaaDoor
open Go.RowKit
set_option linter.unusedVariables false

theorem wayH_le (n : Nat) : ∀ (l : List (List UInt8)) (a : Nat), l.length = n → 1 ≤ n → a < n → (wayH l a).length + 1 ≤ n := by
  induction n using Nat.strongRecOn with
  | _ n ih =>
    intro l a hln h1 ha
    by_cases h : n = 1
    · subst h
      rw [wayH_one l a hln]
      simp
    · have hk1 := splitN_lt n (by omega)
      have hk2 := splitN_pos n
      by_cases hak : a < splitN n
      · have e := wayH_left l a (by omega) (by rw [hln]; exact hak)
        rw [e, hln, List.length_append]
        have := ih (splitN n) hk1 (l.take (splitN n)) a (by simp; omega) hk2 hak
        simp
        omega
      · have e := wayH_right l a (by omega) (by rw [hln]; exact hak)
        rw [e, hln, List.length_append]
        have := ih (n - splitN n) (by omega) (l.drop (splitN n)) (a - splitN n) (by simp; omega) (by omega) (by omega)
        simp
        omega
theorem prA_le (l : Its) (i : Int) : (prA l i).length ≤ 65536 := by
  unfold prA
  split
  · rename_i h
    obtain ⟨ho, k, rfl, hk⟩ := prE_zero h
    have := wayH_le l.length (txs l) k (txs_len l) (by omega) hk
    have := ho.1
    simp only [Int.toNat_natCast]
    omega
  · simp
section
variable {P : Program} {ops : Array Oper} {rest : List Oper} {op : Oper} {a : Act} {w : World} {Q : Exit → Act → World → Prop}
theorem wpList_build2 (hgd : op.guard = none) (t : TypeId) (x y : Operand) (ho : op.op = .build t #[(0, x), (1, y)]) (u v r : Value) (hx : a.eval x = u) (hy : a.eval y = v) (hr : (Instr.build t #[(0, u), (1, v)]).run P w = .ok r w) (h : wpList P ops Q rest (a.put op.dst r) w) : wpList P ops Q (op :: rest) a w :=
  wpList_plain hgd fun K hK => by
    unfold Oper.wp execOp
    simp only [ho, Sem.run_bind, List.map_toArray, List.map_cons, List.map_nil, hx, hy, hr, Result.andThen_ok, Sem.run_pure]
    exact hK _ _ h
theorem wpList_store_run (hgd : op.guard = none) (hd : op.dst = none) (ty : TypeId) (x y : Operand) (ho : op.op = .store ty x y) (p : Addr) (u : Value) (hx : a.eval x = .pointer (some p)) (hy : a.eval y = u) (w' : World)
    (hr : (Instr.storeAt ty (.pointer (some p)) u).run P w = .ok () w') (h : wpList P ops Q rest a w') : wpList P ops Q (op :: rest) a w :=
  wpList_plain hgd fun K hK => by
    unfold Oper.wp execOp
    simp only [ho, hx, hy, Sem.run_bind, hr, Result.andThen_ok, Sem.run_pure]
    refine hK _ _ ?_
    rw [hd]
    exact h
end
theorem bld2 (w : World) (x y : UInt8) : (Instr.build 35 #[(0, bv x), (1, bv y)]).run Tryd.prog w = .ok (.agg (hb32 (x :: y :: List.replicate 30 0))) w := by kernel_rfl
theorem bldI (w : World) (X Y : Int) (x y : UInt8) (hx : X = (x.toNat : Int)) (hy : Y = (y.toNat : Int)) : (Instr.build 35 #[(0, .int .u8 X), (1, .int .u8 Y)]).run Tryd.prog w = .ok (.agg (hb32 (x :: y :: List.replicate 30 0))) w := by
  subst hx
  subst hy
  exact bld2 w x y
theorem size50 : (Tryd.prog.info? 50).map (fun i => (i.zero, i.size, i.bytes)) = some (some (.slice none 0 0), 1, 24) := by kernel_rfl
theorem info35' : (Tryd.prog.info? 35).map (fun i => (i.zero, i.size, i.bytes)) = some (some (.agg (hb32 z32)), 32, 32) := info25
/-- A block of another kind is none of theirs. -/
theorem Lot.awayR {w : World} {vs : List Value} {L : Nat → List Dg} (h : Lot w vs L) {g : Nat} {X : Array Value} {t : TypeId} (R : Row w g X t) (ht : t ≠ 35) : ¬ Lb vs g := by
  rintro ⟨k, v, hv, hb⟩
  rcases (h.own k v hv).2 with ⟨rfl, _⟩ | ⟨g2, cap2, cur2, rfl, _, ho2, _⟩
  · cases hb
  · cases hb
    have r : w.heap[g2]? = some (Obj.cells X t (0, 0)) := R
    rw [r] at ho2
    cases ho2
    exact ht rfl
/-- Three lists. -/
def tri (A B C : List Dg) (k : Nat) : List Dg := if k = 0 then A else if k = 1 then B else C
theorem tri_le {A B C : List Dg} {n : Nat} (ha : A.length ≤ n) (hb : B.length ≤ n) (hc : C.length ≤ n) (k : Nat) : (tri A B C k).length ≤ n := by
  unfold tri
  split
  · exact ha
  · split
    · exact hb
    · exact hc
theorem lot_tri {w : World} {v0 v1 v2 : Value} {A B C : List Dg} (h0 : OwnN w 35 32 v0 A.length (hsF A)) (h1 : OwnN w 35 32 v1 B.length (hsF B)) (h2 : OwnN w 35 32 v2 C.length (hsF C)) (k0 : ∀ m ∈ A, m.length = 32) (k1 : ∀ m ∈ B, m.length = 32) (k2 : ∀ m ∈ C, m.length = 32)
    (d01 : ∀ g, v0.ownBlock = some g → ¬ v1.ownBlock = some g) (d02 : ∀ g, v0.ownBlock = some g → ¬ v2.ownBlock = some g) (d12 : ∀ g, v1.ownBlock = some g → ¬ v2.ownBlock = some g) : Lot w [v0, v1, v2] (tri A B C) := by
  have three : ∀ (k : Nat) (v : Value), [v0, v1, v2][k]? = some v → (k = 0 ∧ v = v0) ∨ (k = 1 ∧ v = v1) ∨ (k = 2 ∧ v = v2) := fun k v hv => by
    match k, hv with
    | 0, hv => simp at hv; exact .inl ⟨rfl, hv.symm⟩
    | 1, hv => simp at hv; exact .inr (.inl ⟨rfl, hv.symm⟩)
    | 2, hv => simp at hv; exact .inr (.inr ⟨rfl, hv.symm⟩)
    | k + 3, hv => simp at hv
  refine ⟨fun k v hv => ?_, fun k v hv => ?_, fun i j v u g hi hj gi gj => ?_⟩
  · rcases three k v hv with ⟨rfl, rfl⟩ | ⟨rfl, rfl⟩ | ⟨rfl, rfl⟩
    · exact h0
    · exact h1
    · exact h2
  · rcases three k v hv with ⟨rfl, rfl⟩ | ⟨rfl, rfl⟩ | ⟨rfl, rfl⟩
    · exact k0
    · exact k1
    · exact k2
  · rcases three i v hi with ⟨rfl, rfl⟩ | ⟨rfl, rfl⟩ | ⟨rfl, rfl⟩ <;> rcases three j u hj with ⟨rfl, rfl⟩ | ⟨rfl, rfl⟩ | ⟨rfl, rfl⟩
    · rfl
    · exact absurd gj (d01 g gi)
    · exact absurd gj (d02 g gi)
    · exact absurd gi (d01 g gj)
    · rfl
    · exact absurd gj (d12 g gi)
    · exact absurd gi (d02 g gj)
    · exact absurd gi (d12 g gj)
    · rfl
theorem Grown.to {B : Nat} {w : World} {vs us : List Value} {F G G2 : Nat → List Dg} (h : Grown B w vs us F G) (e : ∀ q, q < us.length → G q = G2 q) (hp : ∀ q, F q <+: G2 q) : Grown B w vs us F G2 :=
  ⟨⟨fun k v hv => by rw [← e k (List.getElem?_eq_some_iff.1 hv).1]; exact h.lot.own k v hv, fun k v hv => by rw [← e k (List.getElem?_eq_some_iff.1 hv).1]; exact h.lot.ok k v hv, h.lot.apart⟩, h.ms, h.head, h.low, h.cross, h.blk, hp⟩
theorem int_byte (x : Int) (n : Nat) (h : x = (n : Int)) (hn : n < 256) : x = ((UInt8.ofNat n).toNat : Int) := by
  subst h
  simp
  omega
theorem mod_byte (x : Int) (n : Nat) (h : x = (n : Int)) : x % 256 = ((UInt8.ofNat n).toNat : Int) := by
  subst h
  simp
end Go.Proofs.YtnibmkenbidnfaaDoor
