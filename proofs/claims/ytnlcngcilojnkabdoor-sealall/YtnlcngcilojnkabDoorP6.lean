/- Sign on both sides: what it answers, what it leaves. -/
import Derived.Test.YtnlcngcilojnkabDoorP5
namespace Go.Proofs.YtnlcngcilojnkabDoor
open Go.RowKit Go.Maps Go.MuLone
set_option linter.unusedVariables false

def sgY (a : UInt64) (ms : List UInt8) : List UInt8 := if ms.length ≤ 1048576 then sealB a ms else List.replicate 16 0
def sgE (ms : List UInt8) : Int := if ms.length ≤ 1048576 then 0 else 4
def sgR (R : List Rec) (a : UInt64) (ms : List UInt8) : List Rec := if ms.length ≤ 1048576 then noted R a ms else R
theorem sgY_len (a : UInt64) (ms : List UInt8) : (sgY a ms).length = 16 := by
  unfold sgY
  split
  · exact sealB_len a ms
  · simp
theorem sgR_len (R : List Rec) (a : UInt64) (ms : List UInt8) : (sgR R a ms).length ≤ R.length + 1 := by
  unfold sgR noted
  split
  · split
    · omega
    · simp
  · omega
theorem sgR_small {R : List Rec} (h : ∀ r ∈ R, r.2.length ≤ 1048576) (a : UInt64) (ms : List UInt8) : ∀ r ∈ sgR R a ms, r.2.length ≤ 1048576 := by
  intro r hr
  unfold sgR noted at hr
  split at hr
  · split at hr
    · exact h r hr
    · rcases List.mem_append.1 hr with q | q
      · exact h r q
      · simp at q
        subst q
        assumption
  · exact h r hr
section
variable {w : World} {d : Pd}
theorem Z16_map : Z16 = ((List.replicate 16 (0 : UInt8)).map bv).toArray := rfl
theorem psign (S : Pz w d) (j s : Nat) (a : UInt64) (hs : d.ss[j]? = some s) (ha : d.E[j]? = some a) (va : Value) (ms : List UInt8) (hb : Bs w va ms) (hva : ∀ g, va.ownBlock = some g → ¬ Fp d.p d.br d.bt d.V g) (hl : Laid1 w) (h2 : 2 ≤ w.heap.size) (h1 : ¬ Fp d.p d.br d.bt d.V 1)
    (hm : d.E.length + d.R.length ≤ 4398046511104) : Calls Tryd.prog 41 #[.pointer (some ⟨s, 0, none⟩), va] w fun e w' =>
    e = .returned (.tuple #[.agg ((sgY a ms).map bv).toArray, .int .i64 (sgE ms)]) ∧ ∃ V', Bk w' d.p d.br d.bt V' d.E (sgR d.R a ms) ∧ (∀ b g, (V' b).ownBlock = some g → (d.V b).ownBlock = some g ∨ w.heap.size ≤ g) ∧ Turn (Fp d.p d.br d.bt d.V) w w' := by
  have hq := S.sg j s a hs ha
  by_cases hlen : ms.length ≤ 1048576
  · have := S.bk.sign s a hq (List.mem_of_getElem? ha) va ms hb (fun _ => hva) hl h2 h1 hlen (by simp only [maxLen]; omega) (by omega)
    refine this.mono fun e w' ⟨he, V', hB, hf, ht⟩ => ⟨?_, V', ?_, fun b g hg => ?_, ht⟩
    · rw [he, sgY, if_pos hlen, sgE, if_pos hlen]; rfl
    · rw [sgR, if_pos hlen]; exact hB
    · rcases hf b g hg with q | q
      · exact .inl q
      · exact .inr (by omega)
  · have hp0 : w.cell? ⟨d.p, 0, none⟩ = some (.pointer (some ⟨d.p, 0, none⟩)) := by obtain ⟨D1, D2, hr, _⟩ := S.bk.reg; exact hr.c0
    refine (sign41_big w s d.p a va ms hq hp0 hb (by omega)).mono fun e w' ⟨he, ht⟩ => ⟨?_, d.V, ?_, fun b g hg => .inl hg, ht.of_no⟩
    · rw [he, sgY, if_neg hlen, sgE, if_neg hlen, Z16_map]
    · rw [sgR, if_neg hlen]; exact S.bk.turn_no ht
theorem dsign {w : World} {q : Nat} {ve vr : Value} {E : List UInt64} {R : List Rec} (h : Rf w q ve vr E R) (t : Nat) (a : UInt64) (hs : Rsg w t q a) (va : Value) (ms : List UInt8) (hb : Bs w va ms) (hva : ∀ g, va.ownBlock = some g → g ≠ q ∧ vr.ownBlock ≠ some g) (hl : Laid0 w) (h2 : 2 ≤ w.heap.size) (hq0 : q ≠ 0) (hr0 : vr.ownBlock ≠ some 0) (hRl : R.length ≤ 1599289640401) :
    Calls Tryd.prog 42 #[.pointer (some ⟨t, 0, none⟩), va] w fun e w' =>
    e = .returned (.tuple #[.agg ((sgY a ms).map bv).toArray, .int .i64 (sgE ms)]) ∧ ∃ vr', Rf w' q ve vr' E (sgR R a ms) ∧ (∀ g, vr'.ownBlock = some g → vr.ownBlock = some g ∨ w.heap.size ≤ g) ∧ Turn (fun k => k = q ∨ vr.ownBlock = some k) w w' := by
  by_cases hlen : ms.length ≤ 1048576
  · refine (rsign42 h t a hs va ms hb hva hl h2 hq0 hr0 hlen hRl).mono fun e w' ⟨he, vr', hB, hf, ht⟩ => ⟨?_, vr', ?_, hf, ht⟩
    · rw [he, sgY, if_pos hlen, sgE, if_pos hlen]; rfl
    · rw [sgR, if_pos hlen]; exact hB
  · refine (rsign42_big t a hs va ms hb (by omega)).mono fun e w' ⟨he, ht⟩ => ⟨?_, vr, ?_, fun g hg => .inl hg, ht.of_no⟩
    · rw [he, sgY, if_neg hlen, sgE, if_neg hlen, Z16_map]
    · rw [sgR, if_neg hlen]; exact h.turn_no ht
end
section
variable {base : Nat} {w w1 w2 : World} {tw : Nat} {d : Nat → Pd} {vq : Value} {Q : List (List UInt8)} {k : Nat}
theorem Tw.signed (h : Tw base w tw d vq Q) (hk : k < 2) (a : UInt64) (ms : List UInt8) {V' : UInt64 → Value} {vr' : Value}
    (t1 : Turn (Fp (d k).p (d k).br (d k).bt (d k).V) w w1) (bk1 : Bk w1 (d k).p (d k).br (d k).bt V' (d k).E (sgR (d k).R a ms)) (fV : ∀ b g, (V' b).ownBlock = some g → ((d k).V b).ownBlock = some g ∨ w.heap.size ≤ g)
    (t2 : Turn (fun g => g = (d k).q ∨ (d k).vr.ownBlock = some g) w1 w2) (rf2 : Rf w2 (d k).q (d k).ve vr' (d k).E (sgR (d k).R a ms)) (fvr : ∀ g, vr'.ownBlock = some g → (d k).vr.ownBlock = some g ∨ w1.heap.size ≤ g) :
    Tw base w2 tw (updP d k { d k with V := V', vr := vr', R := sgR (d k).R a ms }) vq Q ∧ Turn (fun g => base ≤ g) w w2 := by
  have S := h.side k hk
  obtain ⟨_, os1, ot1, sg1, rs1⟩ := S.keepR t1
  have lt2 : ∀ g, (g = (d k).q ∨ (d k).vr.ownBlock = some g) → RFp (d k).q (d k).ve (d k).vr g := fun g e => by
    rcases e with e | e
    · exact .inl e
    · exact .inr (.inr e)
  have offF : ∀ g, (g = (d k).q ∨ (d k).vr.ownBlock = some g) → ¬ Fp (d k).p (d k).br (d k).bt (d k).V g := fun g e hg => by
    rcases e with e | e
    · subst e; exact S.bk.away S.rf.row (by decide) (by decide) hg
    · obtain ⟨c, ho⟩ := S.rf.orr.obj e; exact S.bk.away ho (by decide) (by decide) hg
  have ltw : ∀ g, (g = (d k).q ∨ (d k).vr.ownBlock = some g) → g < w.heap.size := fun g e => S.rf.lt (lt2 g e)
  have sz1 := t1.size
  have bk2 := bk1.turn t2 (fun g hg e => by
    rcases hg with q | q | q | ⟨b, q⟩
    · exact offF g e (.inl q)
    · exact offF g e (.inr (.inl q))
    · exact offF g e (.inr (.inr (.inl q)))
    · rcases fV b g q with q | q
      · exact offF g e (.inr (.inr (.inr ⟨b, q⟩)))
      · have := ltw g e; omega)
  have offo : ∀ {g : Nat} {c : Array Value} {e : TypeId} {f : Nat × Nat}, w.heap[g]? = some (.cells c e f) → e ≠ 80 → e ≠ 28 → e ≠ 100 → ¬ (g = (d k).q ∨ (d k).vr.ownBlock = some g) := fun ho n1 n2 n3 e => S.off_rf ho n1 n2 n3 (lt2 _ e)
  refine h.side_upd hk ((t1.mono (fun g _ e => Or.inl e)).trans t2 (fun g _ e => Or.inr (.inl (lt2 g e)))) _ rfl rfl rfl rfl ⟨bk2, rf2, ?_, ?_, S.len, S.lent, fun j s a' e1 e2 => ?_, fun j s a' e1 e2 => ?_, sgR_small S.small a ms⟩ (fun g hg => ?_)
  · exact os1.turn t2 (fun g hg e => by obtain ⟨c, ho⟩ := S.os.obj hg; exact offo ho (by decide) (by decide) (by decide) e)
  · exact ot1.turn t2 (fun g hg e => by obtain ⟨c, ho⟩ := S.ot.obj hg; exact offo ho (by decide) (by decide) (by decide) e)
  · exact Row.turn (sg1 j s a' e1 e2) t2 (offo (S.sg j s a' e1 e2) (by decide) (by decide) (by decide))
  · exact Row.turn (rs1 j s a' e1 e2) t2 (offo (S.rs j s a' e1 e2) (by decide) (by decide) (by decide))
  · rcases hg with (q | q | q | ⟨b, q⟩) | (q | q | q) | q | q | q | q
    · exact .inl (.inl (.inl q))
    · exact .inl (.inl (.inr (.inl q)))
    · exact .inl (.inl (.inr (.inr (.inl q))))
    · rcases fV b g q with q | q
      · exact .inl (.inl (.inr (.inr (.inr ⟨b, q⟩))))
      · exact .inr q
    · exact .inl (.inr (.inl (.inl q)))
    · exact .inl (.inr (.inl (.inr (.inl q))))
    · rcases fvr g q with q | q
      · exact .inl (.inr (.inl (.inr (.inr q))))
      · exact .inr (by omega)
    · exact .inl (.inr (.inr (.inl q)))
    · exact .inl (.inr (.inr (.inr (.inl q))))
    · exact .inl (.inr (.inr (.inr (.inr (.inl q)))))
    · exact .inl (.inr (.inr (.inr (.inr (.inr q)))))
end
end Go.Proofs.YtnlcngcilojnkabDoor
