/- Texts in one. -/
import Derived.Test.YtnlcngcilojnkabDoorP1
import Derived.Test.YtnlcngcilojnkabDoorG1
/- A signer more on a side. -/
namespace Go.Proofs.YtnlcngcilojnkabDoor
open Go.RowKit Go.Maps Go.MuLone
set_option linter.unusedVariables false

theorem two (k : Nat) (hk : k < 2) : k = 0 ∨ k = 1 := by omega
/-- A side with an address, a signer of the program's and one of the document's more. -/
def Pd.enter (d : Pd) (a : UInt64) (s t : Nat) (ve' vs' vt' : Value) : Pd := { d with E := d.E ++ [a], ss := d.ss ++ [s], ts := d.ts ++ [t], ve := ve', vs := vs', vt := vt' }
section
variable {base : Nat} {w w1 w2 w3 w5 : World} {tw : Nat} {d : Nat → Pd} {vq : Value} {Q : List (List UInt8)} {k : Nat}
theorem Tw.mid4 (h : Tw base w tw d vq Q) (hk : k < 2) (t : Turn (fun g => PFp (d k) g) w w3) : Row w3 tw (twC d vq) 44 := h.row.turn t (h.tw_off hk)
theorem twC_set4 (d : Nat → Pd) (vq : Value) (hk : k < 2) (x : Value) : (twC d vq).setIfInBounds (4 + k) x = twC (updP d k { d k with vs := x }) vq := by
  rcases two k hk with rfl | rfl <;> rfl
theorem twC_set6 (d : Nat → Pd) (vq : Value) (hk : k < 2) (x : Value) : (twC d vq).setIfInBounds (6 + k) x = twC (updP d k { d k with vt := x }) vq := by
  rcases two k hk with rfl | rfl <;> rfl
theorem twC_set8 (d : Nat → Pd) (vq x : Value) : (twC d vq).setIfInBounds 8 x = twC d x := rfl
theorem Tw.entered (h : Tw base w tw d vq Q) (hk : k < 2) (a : UInt64) (s t : Nat) {ve' vs' vt' : Value}
    (t01 : Turn (fun g => g = (d k).p ∨ g = (d k).bt) w w1) (hs : w.heap.size ≤ s) (sg1 : Sg w1 s (d k).p a) (bk1 : Bk w1 (d k).p (d k).br (d k).bt (d k).V ((d k).E ++ [a]) (d k).R)
    (t12 : Turn (fun g => g = (d k).q ∨ (d k).ve.ownBlock = some g) w1 w2) (ht : w1.heap.size ≤ t) (rs2 : Rsg w2 t (d k).q a) (rf2 : Rf w2 (d k).q ve' (d k).vr ((d k).E ++ [a]) (d k).R) (fve : ∀ g, ve'.ownBlock = some g → (d k).ve.ownBlock = some g ∨ w1.heap.size ≤ g)
    (t23 : Turn (fun g => (d k).vs.ownBlock = some g) w2 w3) (o3 : Own w3 62 vs' ((d k).ss.map ptr ++ [ptr s])) (fvs : ∀ g, vs'.ownBlock = some g → (d k).vs.ownBlock = some g ∨ w2.heap.size ≤ g)
    (t45 : Turn (fun g => (d k).vt.ownBlock = some g) (w3.setCell ⟨tw, 4 + k, none⟩ vs') w5) (o5 : Own w5 64 vt' ((d k).ts.map ptr ++ [ptr t])) (fvt : ∀ g, vt'.ownBlock = some g → (d k).vt.ownBlock = some g ∨ w2.heap.size ≤ g) :
    Row w5 tw (twC (updP d k { d k with vs := vs' }) vq) 44 ∧ Tw base (w5.setCell ⟨tw, 6 + k, none⟩ vt') tw (updP d k ((d k).enter a s t ve' vs' vt')) vq Q ∧ Turn (fun g => base ≤ g) w (w5.setCell ⟨tw, 6 + k, none⟩ vt') := by
  have S := h.side k hk
  have off := h.tw_off hk
  have T01 : Turn (PFp (d k)) w w1 := t01.mono (fun g _ e => by
    rcases e with rfl | rfl
    · exact .inl (.inl rfl)
    · exact .inl (.inr (.inr (.inl rfl))))
  have T02 : Turn (PFp (d k)) w w2 := T01.trans t12 (fun g _ e => by
    rcases e with rfl | e
    · exact .inr (.inl (.inl rfl))
    · exact .inr (.inl (.inr (.inl e))))
  have T03 : Turn (PFp (d k)) w w3 := T02.trans t23 (fun g _ e => .inr (.inr (.inl e)))
  have r3 : Row w3 tw (twC d vq) 44 := h.row.turn T03 off
  have tS : Turn (fun g => g = tw) w3 (w3.setCell ⟨tw, 4 + k, none⟩ vs') := (Turn.refl (fun g => g = tw) w3).setCell (p := ⟨tw, 4 + k, none⟩) (fun _ => rfl) _
  have r4 : Row (w3.setCell ⟨tw, 4 + k, none⟩ vs') tw (twC (updP d k { d k with vs := vs' }) vq) 44 := by
    have := r3.set (4 + k) vs'
    rwa [twC_set4 d vq hk] at this
  generalize w3.setCell ⟨tw, 4 + k, none⟩ vs' = w4 at *
  have T04 : Turn (fun g => PFp (d k) g ∨ g = tw) w w4 := (T03.mono (fun _ _ e => Or.inl e)).trans tS (fun _ _ e => .inr e)
  have hvt : ∀ g, (d k).vt.ownBlock = some g → g ≠ tw := fun g e q => by subst q; exact off (.inr (.inr (.inr (.inl e))))
  have r5 : Row w5 tw (twC (updP d k { d k with vs := vs' }) vq) 44 := r4.turn t45 (fun e => hvt tw e rfl)
  have T05 : Turn (fun g => PFp (d k) g ∨ g = tw) w w5 := T04.trans t45 (fun g _ e => .inl (.inr (.inr (.inr (.inl e)))))
  have tU : Turn (fun g => g = tw) w5 (w5.setCell ⟨tw, 6 + k, none⟩ vt') := (Turn.refl (fun g => g = tw) w5).setCell (p := ⟨tw, 6 + k, none⟩) (fun _ => rfl) _
  have r6 : Row (w5.setCell ⟨tw, 6 + k, none⟩ vt') tw (twC (updP d k ((d k).enter a s t ve' vs' vt')) vq) 44 := by
    have := r5.set (6 + k) vt'
    rcases two k hk with rfl | rfl <;> exact this
  refine ⟨r5, ?_⟩
  generalize w5.setCell ⟨tw, 6 + k, none⟩ vt' = w6 at *
  have T06 : Turn (fun g => PFp (d k) g ∨ g = tw) w w6 := T05.trans tU (fun _ _ e => .inr e)
  -- what turned behind each world
  have T26 : Turn (fun g => (d k).vs.ownBlock = some g ∨ (d k).vt.ownBlock = some g ∨ g = tw) w2 w6 := (((t23.mono (fun _ _ e => Or.inl e)).trans tS (fun _ _ e => .inr (.inr e))).trans t45 (fun _ _ e => .inr (.inl e))).trans tU (fun _ _ e => .inr (.inr e))
  have T16 : Turn (fun g => (g = (d k).q ∨ (d k).ve.ownBlock = some g) ∨ (d k).vs.ownBlock = some g ∨ (d k).vt.ownBlock = some g ∨ g = tw) w1 w6 := (t12.mono (fun _ _ e => Or.inl e)).trans T26 (fun _ _ e => .inr e)
  have T36 : Turn (fun g => (d k).vt.ownBlock = some g ∨ g = tw) w3 w6 := ((tS.mono (fun _ _ e => Or.inr e)).trans t45 (fun _ _ e => .inl e)).trans tU (fun _ _ e => .inr e)
  have sz1 := T01.size
  have sz2 := T02.size
  -- the tags of what turned, in w
  have Oq := S.rf.row
  have tagq : ∀ {g : Nat} {c : Array Value} {e : TypeId} {f : Nat × Nat}, w.heap[g]? = some (.cells c e f) → e ≠ 80 → e ≠ 28 → e ≠ 62 → e ≠ 64 → e ≠ 44 → ¬ ((g = (d k).q ∨ (d k).ve.ownBlock = some g) ∨ (d k).vs.ownBlock = some g ∨ (d k).vt.ownBlock = some g ∨ g = tw) := fun {g c e f} ho n1 n2 n3 n4 n5 q => by
    rcases q with (q | q) | q | q | q
    · subst q; exact n1 (tag_ne ho Oq)
    · obtain ⟨c', ho'⟩ := S.rf.oe.obj q; exact n2 (tag_ne ho ho')
    · obtain ⟨c', ho'⟩ := S.os.obj q; exact n3 (tag_ne ho ho')
    · obtain ⟨c', ho'⟩ := S.ot.obj q; exact n4 (tag_ne ho ho')
    · subst q; exact n5 (tag_ne ho h.row)
  have offq : ∀ g, ((g = (d k).q ∨ (d k).ve.ownBlock = some g) ∨ (d k).vs.ownBlock = some g ∨ (d k).vt.ownBlock = some g ∨ g = tw) → ¬ Fp (d k).p (d k).br (d k).bt (d k).V g := fun g q hg => by
    rcases q with (q | q) | q | q | q
    · subst q; exact S.bk.away Oq (by decide) (by decide) hg
    · obtain ⟨c', ho'⟩ := S.rf.oe.obj q; exact S.bk.away ho' (by decide) (by decide) hg
    · obtain ⟨c', ho'⟩ := S.os.obj q; exact S.bk.away ho' (by decide) (by decide) hg
    · obtain ⟨c', ho'⟩ := S.ot.obj q; exact S.bk.away ho' (by decide) (by decide) hg
    · subst q; exact off (.inl hg)
  have ltq : ∀ g, ((g = (d k).q ∨ (d k).ve.ownBlock = some g) ∨ (d k).vs.ownBlock = some g ∨ (d k).vt.ownBlock = some g ∨ g = tw) → g < w.heap.size := fun g q => by
    rcases q with (q | q) | q | q | q
    · exact S.lt (.inr (.inl (.inl q)))
    · exact S.lt (.inr (.inl (.inr (.inl q))))
    · exact S.lt (.inr (.inr (.inl q)))
    · exact S.lt (.inr (.inr (.inr (.inl q))))
    · subst q; exact h.row.lt
  have bk6 := bk1.turn T16 (fun g hg q => offq g q hg)
  have rf6 := rf2.turn T26 (fun g hg q => by
    have hne : ∀ c e f, w.heap[g]? = some (.cells c e f) → e ≠ 80 ∧ e ≠ 28 ∧ e ≠ 100 → False := fun c e f ho hn => by
      rcases hg with hg | hg | hg
      · subst hg; exact hn.1 (tag_ne ho Oq)
      · rcases fve g hg with hg | hg
        · obtain ⟨c', ho'⟩ := S.rf.oe.obj hg; exact hn.2.1 (tag_ne ho ho')
        · have := ltq g (.inr q); omega
      · obtain ⟨c', ho'⟩ := S.rf.orr.obj hg; exact hn.2.2 (tag_ne ho ho')
    rcases q with q | q | q
    · obtain ⟨c', ho'⟩ := S.os.obj q; exact hne _ _ _ ho' (by decide)
    · obtain ⟨c', ho'⟩ := S.ot.obj q; exact hne _ _ _ ho' (by decide)
    · subst q; exact hne _ _ _ h.row (by decide))
  have os6 := o3.turn T36 (fun g hg q => by
    rcases fvs g hg with hg | hg
    · rcases q with q | q
      · obtain ⟨c, ho⟩ := S.os.obj hg
        obtain ⟨c', ho'⟩ := S.ot.obj q
        exact absurd (tag_ne ho ho') (by decide)
      · subst q; exact off (.inr (.inr (.inl hg)))
    · have := ltq g (.inr (.inr q)); omega)
  have ot6 := o5.turn tU (fun g hg q => by
    rcases fvt g hg with hg | hg
    · exact hvt g hg q
    · have := ltq g (.inr (.inr (.inr q))); omega)
  have sg6 : Sg w6 s (d k).p a := Row.turn sg1 T16 (fun q => by have := ltq s q; omega)
  have rs6 : Rsg w6 t (d k).q a := Row.turn rs2 T26 (fun q => by have := ltq t (.inr q); omega)
  have hx : Pz w6 ((d k).enter a s t ve' vs' vt') := by
    refine ⟨bk6, rf6, ?_, ?_, ?_, ?_, ?_, ?_, S.small⟩
    · show Own w6 62 vs' (((d k).ss ++ [s]).map ptr)
      rw [List.map_append]; exact os6
    · show Own w6 64 vt' (((d k).ts ++ [t]).map ptr)
      rw [List.map_append]; exact ot6
    · show ((d k).ss ++ [s]).length = ((d k).E ++ [a]).length
      simp [S.len]
    · show ((d k).ts ++ [t]).length = ((d k).E ++ [a]).length
      simp [S.lent]
    · intro j s' a' h1 h2
      have h1 : ((d k).ss ++ [s])[j]? = some s' := h1
      have h2 : ((d k).E ++ [a])[j]? = some a' := h2
      rw [List.getElem?_append] at h1 h2
      have hl := S.len
      split at h1
      · rename_i hj
        rw [if_pos (by omega)] at h2
        have hsg := S.sg j s' a' h1 h2
        have hg1 := Row.turn hsg t01 (fun e => S.bk.away hsg (by decide) (by decide) (by rcases e with rfl | rfl; exact .inl rfl; exact .inr (.inr (.inl rfl))))
        exact Row.turn hg1 T16 (tagq hsg (by decide) (by decide) (by decide) (by decide) (by decide))
      · rename_i hj
        rw [if_neg (by omega)] at h2
        have : j - (d k).ss.length = 0 := by
          rcases Nat.eq_zero_or_pos (j - (d k).ss.length) with e | e
          · exact e
          · rw [List.getElem?_eq_none (by simp; omega)] at h1; cases h1
        rw [this] at h1
        rw [← hl, this] at h2
        simp at h1 h2
        subst h1; subst h2
        exact sg6
    · intro j s' a' h1 h2
      have h1 : ((d k).ts ++ [t])[j]? = some s' := h1
      have h2 : ((d k).E ++ [a])[j]? = some a' := h2
      rw [List.getElem?_append] at h1 h2
      have hl := S.lent
      split at h1
      · rename_i hj
        rw [if_pos (by omega)] at h2
        have hsg := S.rs j s' a' h1 h2
        have hg1 := Row.turn hsg t01 (fun e => S.bk.away hsg (by decide) (by decide) (by rcases e with rfl | rfl; exact .inl rfl; exact .inr (.inr (.inl rfl))))
        exact Row.turn hg1 T16 (tagq hsg (by decide) (by decide) (by decide) (by decide) (by decide))
      · rename_i hj
        rw [if_neg (by omega)] at h2
        have : j - (d k).ts.length = 0 := by
          rcases Nat.eq_zero_or_pos (j - (d k).ts.length) with e | e
          · exact e
          · rw [List.getElem?_eq_none (by simp; omega)] at h1; cases h1
        rw [this] at h1
        rw [← hl, this] at h2
        simp at h1 h2
        subst h1; subst h2
        exact rs6
  refine ⟨h.upd hk T06 (fun g e => ?_) _ r6 hx (fun g hg => ?_) (h.book.turn T06 (fun g hg e => ?_)) h.each (fun g hg => .inl hg), T06.mono (fun g _ e => ?_)⟩
  · rcases e with e | e
    · exact .inl e
    · exact .inr (.inl e)
  · rcases hg with hg | (hg | hg | hg) | hg | hg | hg | hg
    · exact .inl (.inl hg)
    · exact .inl (.inr (.inl (.inl hg)))
    · rcases fve g hg with e | e
      · exact .inl (.inr (.inl (.inr (.inl e))))
      · exact .inr (by omega)
    · exact .inl (.inr (.inl (.inr (.inr hg))))
    · rcases fvs g hg with e | e
      · exact .inl (.inr (.inr (.inl e)))
      · exact .inr (by omega)
    · rcases fvt g hg with e | e
      · exact .inl (.inr (.inr (.inr (.inl e))))
      · exact .inr (by omega)
    · have hg : g ∈ (d k).ss ++ [s] := hg
      rcases List.mem_append.1 hg with e | e
      · exact .inl (.inr (.inr (.inr (.inr (.inl e)))))
      · simp at e; exact .inr (by omega)
    · have hg : g ∈ (d k).ts ++ [t] := hg
      rcases List.mem_append.1 hg with e | e
      · exact .inl (.inr (.inr (.inr (.inr (.inr e)))))
      · simp at e; exact .inr (by omega)
  · rcases e with e | e
    · exact h.vq_off hk hg e
    · subst e; exact h.vq_tw hg
  · rcases e with e | e
    · exact h.new k hk g e
    · subst e; exact h.newt
end
end Go.Proofs.YtnlcngcilojnkabDoor

/- What stays of a side when one of its registries turns. -/
namespace Go.Proofs.YtnlcngcilojnkabDoor
open Go.RowKit Go.Maps Go.MuLone
set_option linter.unusedVariables false

section
variable {w w' : World} {d : Pd}
theorem Pz.keepR (S : Pz w d) (t : Turn (Fp d.p d.br d.bt d.V) w w') : Rf w' d.q d.ve d.vr d.E d.R ∧ Own w' 62 d.vs (d.ss.map ptr) ∧ Own w' 64 d.vt (d.ts.map ptr) ∧ (∀ (j s : Nat) (a : UInt64), d.ss[j]? = some s → d.E[j]? = some a → Sg w' s d.p a) ∧ (∀ (j s : Nat) (a : UInt64), d.ts[j]? = some s → d.E[j]? = some a → Rsg w' s d.q a) := by
  refine ⟨S.rf.turn t (fun g hg q => ?_), S.os.turn t (fun g hg q => ?_), S.ot.turn t (fun g hg q => ?_), fun j s a h1 h2 => ?_, fun j s a h1 h2 => ?_⟩
  · rcases hg with e | e | e
    · subst e; exact S.bk.away S.rf.row (by decide) (by decide) q
    · obtain ⟨c, ho⟩ := S.rf.oe.obj e; exact S.bk.away ho (by decide) (by decide) q
    · obtain ⟨c, ho⟩ := S.rf.orr.obj e; exact S.bk.away ho (by decide) (by decide) q
  · obtain ⟨c, ho⟩ := S.os.obj hg; exact S.bk.away ho (by decide) (by decide) q
  · obtain ⟨c, ho⟩ := S.ot.obj hg; exact S.bk.away ho (by decide) (by decide) q
  · exact Row.turn (S.sg j s a h1 h2) t (S.bk.away (S.sg j s a h1 h2) (by decide) (by decide))
  · exact Row.turn (S.rs j s a h1 h2) t (S.bk.away (S.rs j s a h1 h2) (by decide) (by decide))
theorem Pz.off_rf (S : Pz w d) {g : Nat} {c : Array Value} {e : TypeId} {f : Nat × Nat} (ho : w.heap[g]? = some (.cells c e f)) (h1 : e ≠ 80) (h2 : e ≠ 28) (h3 : e ≠ 100) : ¬ RFp d.q d.ve d.vr g := by
  rintro (q | q | q)
  · subst q; exact h1 (tag_ne ho S.rf.row)
  · obtain ⟨c', ho'⟩ := S.rf.oe.obj q; exact h2 (tag_ne ho ho')
  · obtain ⟨c', ho'⟩ := S.rf.orr.obj q; exact h3 (tag_ne ho ho')
theorem Pz.keepB (S : Pz w d) (t : Turn (RFp d.q d.ve d.vr) w w') : Bk w' d.p d.br d.bt d.V d.E d.R ∧ Own w' 62 d.vs (d.ss.map ptr) ∧ Own w' 64 d.vt (d.ts.map ptr) ∧ (∀ (j s : Nat) (a : UInt64), d.ss[j]? = some s → d.E[j]? = some a → Sg w' s d.p a) ∧ (∀ (j s : Nat) (a : UInt64), d.ts[j]? = some s → d.E[j]? = some a → Rsg w' s d.q a) := by
  refine ⟨S.bk.turn t (fun g hg q => ?_), S.os.turn t (fun g hg q => ?_), S.ot.turn t (fun g hg q => ?_), fun j s a h1 h2 => ?_, fun j s a h1 h2 => ?_⟩
  · rcases q with e | e | e
    · subst e; exact S.bk.away S.rf.row (by decide) (by decide) hg
    · obtain ⟨c, ho⟩ := S.rf.oe.obj e; exact S.bk.away ho (by decide) (by decide) hg
    · obtain ⟨c, ho⟩ := S.rf.orr.obj e; exact S.bk.away ho (by decide) (by decide) hg
  · obtain ⟨c, ho⟩ := S.os.obj hg; exact S.off_rf ho (by decide) (by decide) (by decide) q
  · obtain ⟨c, ho⟩ := S.ot.obj hg; exact S.off_rf ho (by decide) (by decide) (by decide) q
  · exact Row.turn (S.sg j s a h1 h2) t (S.off_rf (S.sg j s a h1 h2) (by decide) (by decide) (by decide))
  · exact Row.turn (S.rs j s a h1 h2) t (S.off_rf (S.rs j s a h1 h2) (by decide) (by decide) (by decide))
theorem Pz.bk_same (S : Pz w d) (t : Turn (fun g => g = d.p) w w') (bk' : Bk w' d.p d.br d.bt d.V d.E d.R) : Pz w' d := by
  obtain ⟨a, b, c, e, f⟩ := S.keepR (t.mono (fun _ _ q => .inl q))
  exact ⟨bk', a, b, c, S.len, S.lent, e, f, S.small⟩
end
section
variable {base : Nat} {w w' : World} {tw : Nat} {d : Nat → Pd} {vq : Value} {Q : List (List UInt8)} {k : Nat}
theorem updP_self (d : Nat → Pd) (k : Nat) : updP d k (d k) = d := by
  funext j
  unfold updP
  split
  · rename_i e; subst e; rfl
  · rfl
/-- A side turns in itself. -/
theorem Tw.side_upd (h : Tw base w tw d vq Q) (hk : k < 2) (t : Turn (PFp (d k)) w w') (x : Pd) (hp : x.p = (d k).p) (hq : x.q = (d k).q) (hs : x.vs = (d k).vs) (ht : x.vt = (d k).vt) (hx : Pz w' x) (hf : ∀ g, PFp x g → PFp (d k) g ∨ w.heap.size ≤ g) :
    Tw base w' tw (updP d k x) vq Q ∧ Turn (fun g => base ≤ g) w w' := by
  refine ⟨h.upd hk t (fun g e => .inl e) x ?_ hx hf (h.book.turn t (fun g hg e => h.vq_off hk hg e)) h.each (fun g hg => .inl hg), t.mono (fun g _ e => h.new k hk g e)⟩
  rw [twC_upd d k x vq hp hq hs ht]
  exact h.row.turn t (h.tw_off hk)
theorem Tw.side_same (h : Tw base w tw d vq Q) (hk : k < 2) (t : Turn (PFp (d k)) w w') (hx : Pz w' (d k)) : Tw base w' tw d vq Q ∧ Turn (fun g => base ≤ g) w w' := by
  have := h.side_upd hk t (d k) rfl rfl rfl rfl hx (fun g hg => .inl hg)
  rwa [updP_self] at this
end
/-- At most one more of each. -/
def Grow (d d' : Nat → Pd) : Prop := ∀ j, (d' j).E.length ≤ (d j).E.length + 1 ∧ (d' j).R.length ≤ (d j).R.length + 1 ∧ (d' j).E.length + (d' j).R.length ≤ (d j).E.length + (d j).R.length + 1
theorem Grow.refl (d : Nat → Pd) : Grow d d := fun j => ⟨by omega, by omega, by omega⟩
theorem num38 (w : World) (e : Int) : Calls Tryd.prog 38 #[.int .i64 e] w fun r w' => r = .returned (.int .i64 e) ∧ w' = w := by
  go_enter Tryd.func38, Tryd.ntmps38
  go_wp2_with fail
  go_ret
  exact ⟨rfl, rfl⟩
theorem step_append_src {P : Program} {ops : Array Oper} {o : Oper} {a : Act} {w : World} {K : Act → World → Prop} {Q : Exit → Act → World → Prop} {E : Prop} (hgd : o.guard = none) (s x : Operand) {t tx e : TypeId} {z : Value} {bytes : Nat}
    (ho : o.op = .call { callee := .builtin .append, args := #[s, x], argTypes := #[t, tx] })
    (ht : P.underlying t = some (.slice e)) (hinf : (P.info? e).map (fun i => (i.zero, i.size, i.bytes)) = some (some z, 1, bytes)) (hz : z.cells.size = 1)
    (v : Value) (xs : List Value) (hs : a.eval s = v) (hown : Own w e v xs) (xv : Value) (n : Nat) (news : List Value) (hx : a.eval x = xv) (hsrc : Src P 1 tx xv n news w)
    (hb : (xs.length + n) * bytes ≤ 140737488355328) (hm : xs.length + n ≤ maxLen)
    (hK : ∀ v' w', Own w' e v' (xs ++ news) → Grew w w' v v' → K (a.put o.dst v') w') :
    if Region.wanted o (yielded ops a.tmps) = true then Oper.wp P o a w K Q else E := by
  have hw : Region.wanted o (yielded ops a.tmps) = true := by simp [Region.wanted, hgd]
  rw [if_pos hw]
  obtain ⟨v', w', hr, h2, h3, h4⟩ := run_append_src (P := P) ht hinf hz o.type w v xs hown xv n news hsrc hb hm
  unfold Oper.wp
  simp [execOp, ho, resolve, invoke, builtin, hs, hx, hr, Result.andThen]
  exact hK v' w' h2 h3
theorem info62 : (Tryd.prog.info? 62).map (fun i => (i.zero, i.size, i.bytes)) = some (some (.pointer none), 1, 8) := by kernel_rfl
theorem info64 : (Tryd.prog.info? 64).map (fun i => (i.zero, i.size, i.bytes)) = some (some (.pointer none), 1, 8) := by kernel_rfl
end Go.Proofs.YtnlcngcilojnkabDoor
