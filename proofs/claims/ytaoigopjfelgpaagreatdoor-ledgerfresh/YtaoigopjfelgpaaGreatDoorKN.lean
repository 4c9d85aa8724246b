/- LedgerSounds: the walk. -/
import Derived.Test.YtaoigopjfelgpaaGreatDoorH3
import Derived.Test.YtaoigopjfelgpaaGreatDoorH4
import Derived.Test.YtaoigopjfelgpaaGreatDoorGb
import Derived.Test.YtaoigopjfelgpaaGreatDoorG9
import Derived.Deep.MidRow
namespace Go.Proofs.YtaoigopjfelgpaaGreatDoor
open Go.RowKit
set_option linter.unusedVariables false

def led4 (va vr : Value) (b s : Int) : Array Value := #[va, vr, .int .u64 b, .int .u64 s]
theorem rs_nil (w : World) : Rs w (.slice none 0 0) [] := ⟨none, 0, rfl, by simp, by simp [maxLen], (fun m hm => by cases hm), fun j m hj => by simp at hj⟩
theorem as_nil (w : World) : As w (.slice none 0 0) [] := ⟨none, 0, rfl, by simp, by simp [maxLen], (fun m hm => by cases hm), fun j m hj => by simp at hj⟩
/-- What New made of a list, of both sides. -/
def NewP (w : World) (l : List Ac) (v : Value) (q : Nat) (e : Int) : Prop := e = newE l ∧ ((newE l = 0 ∧ As w v l ∧ q = sumN 0 l []) ∨ (newE l ≠ 0 ∧ v = .slice none 0 0 ∧ q = 0))
theorem NewP.slice {w : World} {l : List Ac} {v : Value} {q : Nat} {e : Int} (h : NewP w l v q e) : ∃ a n c, v = .slice a n c := by
  rcases h.2 with ⟨_, ⟨a, c, e, _⟩, _⟩ | ⟨_, e, _⟩
  · exact ⟨_, _, _, e⟩
  · exact ⟨_, _, _, e⟩
theorem NewP.turn {w w' : World} {l : List Ac} {v : Value} {q : Nat} {e : Int} (h : NewP w l v q e) (t : Turn no w w') : NewP w' l v q e := by
  rcases h with ⟨h0, ⟨h1, h2, h3⟩ | h1⟩
  · exact ⟨h0, Or.inl ⟨h1, h2.turn_no t, h3⟩⟩
  · exact ⟨h0, Or.inr h1⟩
theorem new6p (w : World) (va : Value) (l : List Ac) (ha : As w va l) (hl : l.length * 40 ≤ 140737488355328) : Calls Tryz.prog 6 #[va] w fun e w' => ∃ v q k, e = .returned (.tuple #[.agg #[v, .slice none 0 0, .int .u64 0, .int .u64 (q : Nat)], .int .i64 k]) ∧ NewP w' l v q k ∧ Turn no w w' := by
  refine (new6 w va l ha hl).mono ?_
  rintro e w' (⟨h1, v, rfl, O, _, t⟩ | ⟨h1, rfl, t⟩)
  · have hE : newE l = 0 := by rw [← new_same]; exact h1
    exact ⟨v, _, 0, rfl, ⟨hE.symm, Or.inl ⟨hE, O.as ha.oks, (new_sum hE).1.symm⟩⟩, t⟩
  · have hE : newE l ≠ 0 := by rw [← new_same]; exact h1
    exact ⟨_, 0, _, rfl, ⟨new_same l, Or.inr ⟨hE, rfl, rfl⟩⟩, t⟩
theorem new7p (w : World) (va : Value) (l : List Ac) (ha : As w va l) (hl : l.length * 40 ≤ 140737488355328) : Calls Tryz.prog 5 #[va] w fun e w' => ∃ v q k, e = .returned (.tuple #[.agg #[v, .slice none 0 0, .int .u64 0, .int .u64 (q : Nat)], .int .i64 k]) ∧ NewP w' l v q k ∧ Turn no w w' := by
  refine (new7g w va l ha hl).mono ?_
  rintro e w' (⟨h1, v, rfl, A, t⟩ | ⟨h1, rfl, t⟩)
  · exact ⟨v, _, 0, rfl, ⟨h1.symm, Or.inl ⟨h1, A, rfl⟩⟩, t⟩
  · exact ⟨_, 0, _, rfl, ⟨rfl, Or.inr ⟨h1, rfl, rfl⟩⟩, t⟩
theorem sameN (W : World) (l : List Ac) (v v' : Value) (q q' : Nat) (e e' : Int) (h : NewP W l v q e) (h' : NewP W l v' q' e') : Calls Tryz.prog 14 #[.agg #[v, .slice none 0 0, .int .u64 0, .int .u64 q], .agg #[v', .slice none 0 0, .int .u64 0, .int .u64 q']] W fun e w' => e = .returned (.bool true) ∧ Turn no W w' := by
  rcases h.2 with ⟨h1, h2, h3⟩ | ⟨h1, h2, h3⟩
  · rcases h'.2 with ⟨k1, k2, k3⟩ | ⟨k1, _⟩
    · rw [h3, k3]
      exact same16 W _ _ _ _ l [] h2 (rs_nil W) k2 (rs_nil W) 0 _
    · exact absurd h1 k1
  · rcases h'.2 with ⟨k1, _⟩ | ⟨k1, k2, k3⟩
    · exact absurd k1 h1
    · rw [h2, h3, k2, k3]
      exact same16 W _ _ _ _ [] [] (as_nil W) (rs_nil W) (as_nil W) (rs_nil W) 0 _
theorem field29 (W : World) (v0 v1 v2 v3 : Value) : (Instr.field 30 (.agg #[v0, v1, v2, v3]) 0).run Tryz.prog W = .ok v0 W := by kernel_rfl
theorem wpList_field_as {P : Program} {ops : Array Oper} {rest : List Oper} {o : Oper} {a : Act} {w : World} {Q : Exit → Act → World → Prop} (hg : o.guard = none) (t : TypeId) (x : Operand) (f : Nat) (ho : o.op = .field t x f) (v u : Value) (hx : a.eval x = v) (hr : (Instr.field t v f).run P w = .ok u w) (h : wpList P ops Q rest (a.put o.dst u) w) : wpList P ops Q (o :: rest) a w :=
  wpList_plain hg fun K hK => by
    unfold Oper.wp execOp
    simp only [ho, hx, Sem.run_bind, hr, Result.andThen_ok, Sem.run_pure]
    exact hK _ _ h
end Go.Proofs.YtaoigopjfelgpaaGreatDoor

