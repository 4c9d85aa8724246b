/- What stays of a side when one of its registries turns. -/
import Derived.Test.YtnlcngcilojnkabDoorP2
namespace Go.Proofs.YtnlcngcilojnkabDoor
open Go.RowKit Go.Maps Go.MuLone
set_option linter.unusedVariables false

section
variable {w w' : World} {d : Pd}
theorem Pz.keepR (S : Pz w d) (t : Turn (Fp d.p d.br d.bt d.V) w w') : Rf w' d.q d.ve d.vr d.E d.R ∧ Own w' 62 d.vs (d.ss.map ptr) ∧ Own w' 64 d.vt (d.ts.map ptr) ∧ (∀ (j s : Nat) (a : UInt64), d.ss[j]? = some s → d.E[j]? = some a → Sg w' s d.p a) ∧ (∀ (j s : Nat) (a : UInt64), d.ts[j]? = some s → d.E[j]? = some a → Rsg w' s d.q a) := by
  refine ⟨S.rf.turn t (fun g hg q => ?_), S.os.turn t (fun g hg q => ?_), S.ot.turn t (fun g hg q => ?_), fun j s a h1 h2 => ?_, fun j s a h1 h2 => ?_⟩
  · rcases hg with e | e | e
    · subst e; exact S.bk.away S.rf.row (by decide) (by decide) q
    · obtain ⟨c, ho⟩ := S.rf.oe.obj e; exact S.bk.away ho (by decide) (by decide) q
    · obtain ⟨c, ho⟩ := S.rf.orr.obj e; exact S.bk.away ho (by decide) (by decide) q
  · obtain ⟨c, ho⟩ := S.os.obj hg; exact S.bk.away ho (by decide) (by decide) q
  · obtain ⟨c, ho⟩ := S.ot.obj hg; exact S.bk.away ho (by decide) (by decide) q
  · exact Row.turn (S.sg j s a h1 h2) t (S.bk.away (S.sg j s a h1 h2) (by decide) (by decide))
  · exact Row.turn (S.rs j s a h1 h2) t (S.bk.away (S.rs j s a h1 h2) (by decide) (by decide))
theorem Pz.off_rf (S : Pz w d) {g : Nat} {c : Array Value} {e : TypeId} {f : Nat × Nat} (ho : w.heap[g]? = some (.cells c e f)) (h1 : e ≠ 80) (h2 : e ≠ 28) (h3 : e ≠ 100) : ¬ RFp d.q d.ve d.vr g := by
  rintro (q | q | q)
  · subst q; exact h1 (tag_ne ho S.rf.row)
  · obtain ⟨c', ho'⟩ := S.rf.oe.obj q; exact h2 (tag_ne ho ho')
  · obtain ⟨c', ho'⟩ := S.rf.orr.obj q; exact h3 (tag_ne ho ho')
theorem Pz.keepB (S : Pz w d) (t : Turn (RFp d.q d.ve d.vr) w w') : Bk w' d.p d.br d.bt d.V d.E d.R ∧ Own w' 62 d.vs (d.ss.map ptr) ∧ Own w' 64 d.vt (d.ts.map ptr) ∧ (∀ (j s : Nat) (a : UInt64), d.ss[j]? = some s → d.E[j]? = some a → Sg w' s d.p a) ∧ (∀ (j s : Nat) (a : UInt64), d.ts[j]? = some s → d.E[j]? = some a → Rsg w' s d.q a) := by
  refine ⟨S.bk.turn t (fun g hg q => ?_), S.os.turn t (fun g hg q => ?_), S.ot.turn t (fun g hg q => ?_), fun j s a h1 h2 => ?_, fun j s a h1 h2 => ?_⟩
  · rcases q with e | e | e
    · subst e; exact S.bk.away S.rf.row (by decide) (by decide) hg
    · obtain ⟨c, ho⟩ := S.rf.oe.obj e; exact S.bk.away ho (by decide) (by decide) hg
    · obtain ⟨c, ho⟩ := S.rf.orr.obj e; exact S.bk.away ho (by decide) (by decide) hg
  · obtain ⟨c, ho⟩ := S.os.obj hg; exact S.off_rf ho (by decide) (by decide) (by decide) q
  · obtain ⟨c, ho⟩ := S.ot.obj hg; exact S.off_rf ho (by decide) (by decide) (by decide) q
  · exact Row.turn (S.sg j s a h1 h2) t (S.off_rf (S.sg j s a h1 h2) (by decide) (by decide) (by decide))
  · exact Row.turn (S.rs j s a h1 h2) t (S.off_rf (S.rs j s a h1 h2) (by decide) (by decide) (by decide))
theorem Pz.bk_same (S : Pz w d) (t : Turn (fun g => g = d.p) w w') (bk' : Bk w' d.p d.br d.bt d.V d.E d.R) : Pz w' d := by
  obtain ⟨a, b, c, e, f⟩ := S.keepR (t.mono (fun _ _ q => .inl q))
  exact ⟨bk', a, b, c, S.len, S.lent, e, f, S.small⟩
end
section
variable {base : Nat} {w w' : World} {tw : Nat} {d : Nat → Pd} {vq : Value} {Q : List (List UInt8)} {k : Nat}
theorem updP_self (d : Nat → Pd) (k : Nat) : updP d k (d k) = d := by
  funext j
  unfold updP
  split
  · rename_i e; subst e; rfl
  · rfl
/-- A side turns in itself. -/
theorem Tw.side_upd (h : Tw base w tw d vq Q) (hk : k < 2) (t : Turn (PFp (d k)) w w') (x : Pd) (hp : x.p = (d k).p) (hq : x.q = (d k).q) (hs : x.vs = (d k).vs) (ht : x.vt = (d k).vt) (hx : Pz w' x) (hf : ∀ g, PFp x g → PFp (d k) g ∨ w.heap.size ≤ g) :
    Tw base w' tw (updP d k x) vq Q ∧ Turn (fun g => base ≤ g) w w' := by
  refine ⟨h.upd hk t (fun g e => .inl e) x ?_ hx hf (h.book.turn t (fun g hg e => h.vq_off hk hg e)) h.each (fun g hg => .inl hg), t.mono (fun g _ e => h.new k hk g e)⟩
  rw [twC_upd d k x vq hp hq hs ht]
  exact h.row.turn t (h.tw_off hk)
theorem Tw.side_same (h : Tw base w tw d vq Q) (hk : k < 2) (t : Turn (PFp (d k)) w w') (hx : Pz w' (d k)) : Tw base w' tw d vq Q ∧ Turn (fun g => base ≤ g) w w' := by
  have := h.side_upd hk t (d k) rfl rfl rfl rfl hx (fun g hg => .inl hg)
  rwa [updP_self] at this
end
/-- At most one more of each. -/
def Grow (d d' : Nat → Pd) : Prop := ∀ j, (d' j).E.length ≤ (d j).E.length + 1 ∧ (d' j).R.length ≤ (d j).R.length + 1 ∧ (d' j).E.length + (d' j).R.length ≤ (d j).E.length + (d j).R.length + 1
theorem Grow.refl (d : Nat → Pd) : Grow d d := fun j => ⟨by omega, by omega, by omega⟩
theorem num38 (w : World) (e : Int) : Calls Tryd.prog 38 #[.int .i64 e] w fun r w' => r = .returned (.int .i64 e) ∧ w' = w := by
  go_enter Tryd.func38, Tryd.ntmps38
  go_wp2_with fail
  go_ret
  exact ⟨rfl, rfl⟩
theorem step_append_src {P : Program} {ops : Array Oper} {o : Oper} {a : Act} {w : World} {K : Act → World → Prop} {Q : Exit → Act → World → Prop} {E : Prop} (hgd : o.guard = none) (s x : Operand) {t tx e : TypeId} {z : Value} {bytes : Nat}
    (ho : o.op = .call { callee := .builtin .append, args := #[s, x], argTypes := #[t, tx] })
    (ht : P.underlying t = some (.slice e)) (hinf : (P.info? e).map (fun i => (i.zero, i.size, i.bytes)) = some (some z, 1, bytes)) (hz : z.cells.size = 1)
    (v : Value) (xs : List Value) (hs : a.eval s = v) (hown : Own w e v xs) (xv : Value) (n : Nat) (news : List Value) (hx : a.eval x = xv) (hsrc : Src P 1 tx xv n news w)
    (hb : (xs.length + n) * bytes ≤ 140737488355328) (hm : xs.length + n ≤ maxLen)
    (hK : ∀ v' w', Own w' e v' (xs ++ news) → Grew w w' v v' → K (a.put o.dst v') w') :
    if Region.wanted o (yielded ops a.tmps) = true then Oper.wp P o a w K Q else E := by
  have hw : Region.wanted o (yielded ops a.tmps) = true := by simp [Region.wanted, hgd]
  rw [if_pos hw]
  obtain ⟨v', w', hr, h2, h3, h4⟩ := run_append_src (P := P) ht hinf hz o.type w v xs hown xv n news hsrc hb hm
  unfold Oper.wp
  simp [execOp, ho, resolve, invoke, builtin, hs, hx, hr, Result.andThen]
  exact hK v' w' h2 h3
theorem info62 : (Tryd.prog.info? 62).map (fun i => (i.zero, i.size, i.bytes)) = some (some (.pointer none), 1, 8) := by kernel_rfl
theorem info64 : (Tryd.prog.info? 64).map (fun i => (i.zero, i.size, i.bytes)) = some (some (.pointer none), 1, 8) := by kernel_rfl
end Go.Proofs.YtnlcngcilojnkabDoor
