/- enter of a sight. -/
import Derived.Test.YtnlcngcilojnkaaDoorT2
import Derived.Deep.RegionLaw
namespace Go.Proofs.YtnlcngcilojnkaaDoor
open Go.RowKit Go.Maps Go.MuLone
set_option linter.unusedVariables false

theorem numT (w : World) (e : Int) : Calls Tryd.prog 11 #[.int .i64 e] w fun r w' => r = .returned (.int .i64 e) ∧ w' = w := by
  go_enter Tryd.func11, Tryd.ntmps11
  go_wp2_with fail
  go_ret
  exact ⟨rfl, rfl⟩

/-- append, as one step of a region that draws its order. -/
theorem step_append_src {P : Program} {ops : Array Oper} {o : Oper} {a : Act} {w : World} {K : Act → World → Prop} {Q : Exit → Act → World → Prop} {E : Prop} (hgd : o.guard = none) (s x : Operand) {t tx e : TypeId} {z : Value} {bytes : Nat}
    (ho : o.op = .call { callee := .builtin .append, args := #[s, x], argTypes := #[t, tx] })
    (ht : P.underlying t = some (.slice e)) (hinf : (P.info? e).map (fun i => (i.zero, i.size, i.bytes)) = some (some z, 1, bytes)) (hz : z.cells.size = 1)
    (v : Value) (xs : List Value) (hs : a.eval s = v) (hown : Own w e v xs) (xv : Value) (n : Nat) (news : List Value) (hx : a.eval x = xv) (hsrc : Src P 1 tx xv n news w)
    (hb : (xs.length + n) * bytes ≤ 140737488355328) (hm : xs.length + n ≤ maxLen)
    (hK : ∀ v' w', Own w' e v' (xs ++ news) → Grew w w' v v' → K (a.put o.dst v') w') :
    if Region.wanted o (yielded ops a.tmps) = true then Oper.wp P o a w K Q else E := by
  have hw : Region.wanted o (yielded ops a.tmps) = true := by simp [Region.wanted, hgd]
  rw [if_pos hw]
  obtain ⟨v', w', hr, h2, h3, h4⟩ := run_append_src (P := P) ht hinf hz o.type w v xs hown xv n news hsrc hb hm
  unfold Oper.wp
  simp [execOp, ho, resolve, invoke, builtin, hs, hx, hr, Result.andThen]
  exact hK v' w' h2 h3
theorem src_one {P : Program} {tx e' e : TypeId} (hk : P.underlying tx = some (.slice e')) (w : World) (u : Value) (hu : u.oneCell' = true) : Src P 1 tx (.slice (some ⟨w.heap.size, 0, none⟩) 1 1) 1 [u] (w.alloc (.cells #[u] e)) :=
  Src.ofSlice _ hk _ _ _ _ (by simp) (fun j x hx => by
    have := (Row.new w #[u] e).cell j x (by simpa using hx)
    simpa [Addr.add_lit] using this) (by intro x hx; simp at hx; subst hx; exact hu)
theorem info24 : (Tryd.prog.info? 24).map (fun i => (i.zero, i.size, i.bytes)) = some (some (.pointer none), 1, 8) := by kernel_rfl
theorem info29 : (Tryd.prog.info? 29).map (fun i => (i.zero, i.size, i.bytes)) = some (some (.int .u64 0), 1, 8) := by kernel_rfl

def entE (E : List UInt64) (a : UInt64) : List UInt64 := if a.toNat = 0 ∨ a ∈ E then E else E ++ [a]

section
variable {base sw : Nat} {w : World} {d : Nat → Sd} {vb : Value} {B : List Wr}

set_option maxRecDepth 100000 in
set_option maxHeartbeats 2000000 in
theorem enter34_zero (h : Sight base w sw d vb B) {k : Nat} (hk : k < 2) : Calls Tryd.prog 34 #[.pointer (some ⟨sw, 0, none⟩), .int .i64 k, .int .u64 0] w fun e w' => e = .returned (.tuple #[]) ∧ w' = w := by
  have hk' : (k : Int) < 2 := by omega
  have c0 := h.c0 hk
  have he := (h.side k hk).bk.enter0
  go_enter Tryd.func34, Tryd.ntmps34
  go_wp2_with fail
  refine he.mono ?_
  rintro e w1 ⟨rfl, rfl⟩
  go_wp2_with fail
  refine (numT _ 2).mono ?_
  rintro e w1 ⟨rfl, rfl⟩
  go_wp2_with fail
  go_end0
  exact ⟨rfl, rfl⟩

set_option maxRecDepth 100000 in
set_option maxHeartbeats 2000000 in
theorem enter34_twice (h : Sight base w sw d vb B) {k : Nat} (hk : k < 2) (a : UInt64) (ha : ¬ (a.toNat : Int) = 0) (hin : a ∈ (d k).E) : Calls Tryd.prog 34 #[.pointer (some ⟨sw, 0, none⟩), .int .i64 k, .int .u64 a.toNat] w fun e w' =>
    e = .returned (.tuple #[]) ∧ Sight base w' sw d vb B ∧ Turn (fun g => base ≤ g) w w' := by
  have hk' : (k : Int) < 2 := by omega
  have ha1 : ((a.toNat : Int) == 0) = false := by simpa using ha
  have c0 := h.c0 hk
  have he := (h.side k hk).bk.enter2 a ha hin
  go_enter Tryd.func34, Tryd.ntmps34
  go_wp2_with fail
  refine he.mono ?_
  rintro e w1 ⟨rfl, hB1, t1⟩
  have hpf : SFp (d k) (d k).p := .inl (.inl rfl)
  have t2 : Turn (fun g => base ≤ g) w w1 := t1.mono (fun g _ q => by subst q; exact h.fresh k _ hk hpf)
  have row1 := h.row.turn t1 (fun q => h.sw_away hk (by rw [q]; exact hpf))
  have s1 : Side w1 (d k) (recs B k) := by
    have hs := h.side k hk
    refine ⟨hB1, hs.os.turn t1 (fun g hg q => ?_), hs.oa.turn t1 (fun g hg q => ?_), hs.len, fun j q a h1 h2 => Row.turn (hs.sg j q a h1 h2) t1 (fun e => ?_)⟩
    · obtain ⟨c, ho⟩ := hs.os.obj hg
      subst q
      exact hs.bk.away ho (by decide) (by decide) (.inl rfl)
    · obtain ⟨c, ho⟩ := hs.oa.obj hg
      subst q
      exact hs.bk.away ho (by decide) (by decide) (.inl rfl)
    · exact hs.bk.away (hs.sg j q a h1 h2) (by decide) (by decide) (.inl e)
  have hu : updS d k (d k) = d := by
    funext j
    unfold updS
    split
    · next e => rw [e]
    · rfl
  have h1 : Sight base w1 sw d vb B := by
    have := h.upd hk t1 (fun g q => .inl (by subst q; exact hpf)) (d k) (by rw [hu]; exact row1) s1 (fun g q => .inl q) (h.book.turn t1 (fun g hg q => by subst q; exact h.vb_away hk hg hpf)) h.fb h.who (fun j _ => rfl)
    rwa [hu] at this
  have he2 := entered43 w1 sw k (d k).va (d k).E a hk (h1.c4 hk) (h1.side k hk).oa
  rw [show decide (a ∈ (d k).E) = true by simpa using hin] at he2
  clear row1 s1 he
  go_wp2_with fail
  refine he2.mono ?_
  rintro e w2 ⟨rfl, rfl⟩
  go_wp2_with fail
  refine (numT _ 30).mono ?_
  rintro e w2 ⟨rfl, rfl⟩
  go_wp2_with fail
  go_end0
  exact ⟨rfl, h1, t2⟩

theorem Own.shp {w : World} {e : TypeId} {v : Value} {xs : List Value} (h : Own w e v xs) : ∃ a n cap, v = .slice a n cap := by
  rcases h.shape with ⟨rfl, _⟩ | ⟨g, cap, cur, rfl, _⟩
  · exact ⟨_, _, _, rfl⟩
  · exact ⟨_, _, _, rfl⟩
theorem Own.away {w : World} {e e' : TypeId} {v : Value} {xs : List Value} {g : Nat} {c : Array Value} {f : Nat × Nat} (h : Own w e v xs) (ho : w.heap[g]? = some (.cells c e' f)) (hne : e ≠ e') : v.ownBlock ≠ some g := fun hg => by
  obtain ⟨c', ho'⟩ := h.obj hg
  exact hne (tag_ne ho' ho)

theorem Sight.mid0 (h : Sight base w sw d vb B) {k : Nat} (hk : k < 2) {w1 : World} (t1 : Turn (fun g => g = (d k).p ∨ g = (d k).bt) w w1) : Row w1 sw (sightC d vb) 74 ∧ Own w1 24 (d k).vs ((d k).ss.map ptr) ∧ Own w1 29 (d k).va ((d k).E.map u64V) := by
  have hs := h.side k hk
  have e1 : ∀ g, (g = (d k).p ∨ g = (d k).bt) → Fp (d k).p (d k).br (d k).bt (d k).V g := fun g q => q.elim (fun q => .inl q) (fun q => .inr (.inr (.inl q)))
  exact ⟨h.row.turn t1 (fun q => h.sw_away hk (.inl (e1 _ q))), hs.os.turn t1 (fun g hg q => by obtain ⟨c, ho⟩ := hs.os.obj hg; exact hs.bk.away ho (by decide) (by decide) (e1 _ q)), hs.oa.turn t1 (fun g hg q => by obtain ⟨c, ho⟩ := hs.oa.obj hg; exact hs.bk.away ho (by decide) (by decide) (e1 _ q))⟩
theorem row_at2 {w : World} {k : Nat} (h : Row w sw (sightC d vb) 74) (hk : k < 2) : w.cell? ⟨sw, 2 + k, none⟩ = some (d k).vs := by
  rcases (show k = 0 ∨ k = 1 by omega) with rfl | rfl
  · exact h.cell 2 _ rfl
  · exact h.cell 3 _ rfl
theorem row_at4 {w : World} {k : Nat} (h : Row w sw (sightC d vb) 74) (hk : k < 2) : w.cell? ⟨sw, 4 + k, none⟩ = some (d k).va := by
  rcases (show k = 0 ∨ k = 1 by omega) with rfl | rfl
  · exact h.cell 4 _ rfl
  · exact h.cell 5 _ rfl

/-- What stands behind the first append: the row of the signers. -/
theorem Sight.mid (h : Sight base w sw d vb B) {k : Nat} (hk : k < 2) {q : Nat} {w1 w1a w2 : World} {vs' : Value} (t1 : Turn (fun g => g = (d k).p ∨ g = (d k).bt) w w1) (ta : Turn no w1 w1a)
    (o2 : Own w2 24 vs' ((d k).ss.map ptr ++ [ptr q])) (g2 : Grew w1a w2 (d k).vs vs') : Row w1 sw (sightC d vb) 74 ∧ Own w1 24 (d k).vs ((d k).ss.map ptr) ∧ Own w1 29 (d k).va ((d k).E.map u64V) ∧ Row w2 sw (sightC d vb) 74 ∧ Own (w2.setCell ⟨sw, 2 + k, none⟩ vs') 29 (d k).va ((d k).E.map u64V) ∧
      Turn (fun g => SFp (d k) g ∨ g = sw) w (w2.setCell ⟨sw, 2 + k, none⟩ vs') := by
  have hs := h.side k hk
  have e1 : ∀ g, (g = (d k).p ∨ g = (d k).bt) → Fp (d k).p (d k).br (d k).bt (d k).V g := fun g q => q.elim (fun q => .inl q) (fun q => .inr (.inr (.inl q)))
  have r1 := h.row.turn t1 (fun q => h.sw_away hk (.inl (e1 _ q)))
  have os1 := hs.os.turn t1 (fun g hg q => by obtain ⟨c, ho⟩ := hs.os.obj hg; exact hs.bk.away ho (by decide) (by decide) (e1 _ q))
  have oa1 := hs.oa.turn t1 (fun g hg q => by obtain ⟨c, ho⟩ := hs.oa.obj hg; exact hs.bk.away ho (by decide) (by decide) (e1 _ q))
  have r2 := (r1.turn ta (fun q => q)).turn g2.turn (fun q => os1.away r1 (by decide) q)
  have oa2 := (oa1.turn ta (fun _ _ q => q)).turn g2.turn (fun g hg q => by obtain ⟨c, ho⟩ := oa1.obj hg; exact os1.away ho (by decide) q)
  refine ⟨r1, os1, oa1, r2, oa2.turn ((Turn.refl (fun g => g = sw) w2).setCell (p := ⟨sw, 2 + k, none⟩) (fun _ => rfl) vs') (fun g hg q => by subst q; exact oa2.away r2 (by decide) hg), ?_⟩
  refine Turn.setCell (p := ⟨sw, 2 + k, none⟩) ?_ (fun _ => .inr rfl) vs'
  exact (((t1.mono (fun g _ q => (.inl (.inl (e1 g q)) : SFp (d k) g ∨ g = sw))).then_no ta)).trans g2.turn (fun g _ q => .inl (.inr (.inl q)))

theorem Sight.grow (h : Sight base w sw d vb B) {k : Nat} (hk : k < 2) {q : Nat} {a : UInt64} {w1 w1a w2 w3a w4 : World} {vs' va' : Value} (hq : w.heap.size ≤ q) (t1 : Turn (fun g => g = (d k).p ∨ g = (d k).bt) w w1) (sg1 : Sg w1 q (d k).p a) (bk1 : Bk w1 (d k).p (d k).br (d k).bt (d k).V ((d k).E ++ [a]) (recs B k))
    (ta : Turn no w1 w1a) (o2 : Own w2 24 vs' ((d k).ss.map ptr ++ [ptr q])) (g2 : Grew w1a w2 (d k).vs vs') (tb : Turn no (w2.setCell ⟨sw, 2 + k, none⟩ vs') w3a) (o4 : Own w4 29 va' ((d k).E.map u64V ++ [u64V a])) (g4 : Grew w3a w4 (d k).va va') :
    Row w4 sw (sightC (updS d k { d k with vs := vs' }) vb) 74 ∧ ∃ d', Sight base (w4.setCell ⟨sw, 4 + k, none⟩ va') sw d' vb B ∧ (∀ j, (d' j).E = if j = k then (d k).E ++ [a] else (d j).E) ∧ Turn (fun g => base ≤ g) w (w4.setCell ⟨sw, 4 + k, none⟩ va') := by
  obtain ⟨r1, os1, oa1, r2, oa3, t3⟩ := h.mid hk t1 ta o2 g2
  have hs := h.side k hk
  have s1 := t1.size
  have sa := ta.size
  have q1 : q < w1.heap.size := Row.lt sg1
  have r3 : Row (w2.setCell ⟨sw, 2 + k, none⟩ vs') sw (sightC (updS d k { d k with vs := vs' }) vb) 74 := by
    have := r2.set (2 + k) vs'
    rcases (show k = 0 ∨ k = 1 by omega) with rfl | rfl <;> exact this
  have r3a := r3.turn tb (fun q => q)
  have oa3a := oa3.turn_no tb
  have r4 := r3a.turn g4.turn (fun q => oa3a.away r3a (by decide) q)
  refine ⟨r4, updS d k { d k with vs := vs', va := va', ss := (d k).ss ++ [q], E := (d k).E ++ [a] }, ?_, fun j => ?_, ?_⟩
  · have r5 : Row (w4.setCell ⟨sw, 4 + k, none⟩ va') sw (sightC (updS d k { d k with vs := vs', va := va', ss := (d k).ss ++ [q], E := (d k).E ++ [a] }) vb) 74 := by
      have := r4.set (4 + k) va'
      rcases (show k = 0 ∨ k = 1 by omega) with rfl | rfl <;> exact this
    -- what turns from w1 on
    have u2 : Turn (fun g => (d k).vs.ownBlock = some g) w1 w2 := ta.of_no.trans g2.turn (fun _ _ q => q)
    have u3 : Turn (fun g => (d k).vs.ownBlock = some g ∨ g = sw) w1 (w2.setCell ⟨sw, 2 + k, none⟩ vs') := (u2.mono (fun _ _ q => .inl q)).setCell (p := ⟨sw, 2 + k, none⟩) (fun _ => .inr rfl) vs'
    have u4 : Turn (fun g => (d k).vs.ownBlock = some g ∨ g = sw ∨ (d k).va.ownBlock = some g) w1 w4 := ((u3.then_no tb).mono (fun _ _ q => q.elim .inl (fun q => .inr (.inl q)))).trans g4.turn (fun _ _ q => .inr (.inr q))
    have u5 : Turn (fun g => (d k).vs.ownBlock = some g ∨ g = sw ∨ (d k).va.ownBlock = some g) w1 (w4.setCell ⟨sw, 4 + k, none⟩ va') := u4.setCell (p := ⟨sw, 4 + k, none⟩) (fun _ => .inr (.inl rfl)) va'
    have t5 : Turn (fun g => SFp (d k) g ∨ g = sw) w (w4.setCell ⟨sw, 4 + k, none⟩ va') := (((t3.then_no tb).trans g4.turn (fun g _ q => .inl (.inr (.inr (.inl q)))))).setCell (p := ⟨sw, 4 + k, none⟩) (fun _ => .inr rfl) va'
    have awayF : ∀ g, Fp (d k).p (d k).br (d k).bt (d k).V g → ¬ ((d k).vs.ownBlock = some g ∨ g = sw ∨ (d k).va.ownBlock = some g) := fun g hg q => by
      rcases q with q | q | q
      · obtain ⟨c, ho⟩ := os1.obj q
        exact bk1.away ho (by decide) (by decide) hg
      · subst q
        exact bk1.away r1 (by decide) (by decide) hg
      · obtain ⟨c, ho⟩ := oa1.obj q
        exact bk1.away ho (by decide) (by decide) hg
    have awayS : ∀ {x : Nat} {b : UInt64}, Sg w1 x (d k).p b → ¬ ((d k).vs.ownBlock = some x ∨ x = sw ∨ (d k).va.ownBlock = some x) := fun {x b} hx q => by
      rcases q with q | q | q
      · exact os1.away hx (by decide) q
      · subst q
        exact absurd (tag_ne hx r1) (by decide)
      · exact oa1.away hx (by decide) q
    have o2s : Own (w4.setCell ⟨sw, 4 + k, none⟩ va') 24 vs' ((d k).ss.map ptr ++ [ptr q]) := by
      have x3 := o2.turn ((Turn.refl (fun g => g = sw) w2).setCell (p := ⟨sw, 2 + k, none⟩) (fun _ => rfl) vs') (fun g hg q => by subst q; exact o2.away r2 (by decide) hg)
      have x3a := x3.turn_no tb
      have x4 := x3a.turn g4.turn (fun g hg q => by obtain ⟨c, ho⟩ := oa3a.obj q; exact x3a.away ho (by decide) hg)
      exact x4.turn ((Turn.refl (fun g => g = sw) w4).setCell (p := ⟨sw, 4 + k, none⟩) (fun _ => rfl) va') (fun g hg q => by subst q; exact x4.away r4 (by decide) hg)
    have o4s : Own (w4.setCell ⟨sw, 4 + k, none⟩ va') 29 va' ((d k).E.map u64V ++ [u64V a]) :=
      o4.turn ((Turn.refl (fun g => g = sw) w4).setCell (p := ⟨sw, 4 + k, none⟩) (fun _ => rfl) va') (fun g hg q => by subst q; exact o4.away r4 (by decide) hg)
    refine h.upd hk t5 (fun g q => q.elim .inl (fun q => .inr (.inl q))) _ r5 ⟨bk1.turn u5 awayF, by simpa using o2s, by simpa using o4s, by simp [hs.len], fun j x b h1 h2 => ?_⟩ (fun g hg => ?_) (h.book.turn t5 (fun g hg q => ?_)) h.fb h.who (fun j _ => rfl)
    · simp only at h1 h2
      by_cases hj : j < (d k).ss.length
      · rw [List.getElem?_append_left hj] at h1
        rw [List.getElem?_append_left (by rw [← hs.len]; exact hj)] at h2
        have hx := Row.turn (hs.sg j x b h1 h2) t1 (fun q => hs.bk.away (hs.sg j x b h1 h2) (by decide) (by decide) (q.elim (fun q => .inl q) (fun q => .inr (.inr (.inl q)))))
        exact Row.turn hx u5 (awayS hx)
      · have hj' : j = (d k).ss.length := by
          have := (List.getElem?_eq_some_iff.1 h1).1
          simp at this
          omega
        subst hj'
        simp at h1
        rw [hs.len] at h2
        simp at h2
        subst h1
        subst h2
        exact Row.turn sg1 u5 (awayS sg1)
    · rcases hg with q | q | q | q
      · exact .inl (.inl q)
      · rcases g2.blk with e | ⟨g', e, h1, _⟩
        · exact .inl (.inr (.inl (by rw [← e]; exact q)))
        · rw [e] at q
          cases q
          exact .inr (by omega)
      · rcases g4.blk with e | ⟨g', e, h1, _⟩
        · exact .inl (.inr (.inr (.inl (by rw [← e]; exact q))))
        · rw [e] at q
          cases q
          have := t3.size
          have := tb.size
          exact .inr (by omega)
      · rcases List.mem_append.1 q with q | q
        · exact .inl (.inr (.inr (.inr q)))
        · simp at q
          subst q
          exact .inr hq
    · rcases q with q | q
      · exact h.vb_away hk hg q
      · subst q
        exact h.vb_sw hg
  · by_cases hj : j = k
    · simp [updS, hj]
    · simp [updS, hj]
  · have t5 : Turn (fun g => SFp (d k) g ∨ g = sw) w (w4.setCell ⟨sw, 4 + k, none⟩ va') := (((t3.then_no tb).trans g4.turn (fun g _ q => .inl (.inr (.inr (.inl q)))))).setCell (p := ⟨sw, 4 + k, none⟩) (fun _ => .inr rfl) va'
    exact t5.mono (fun g _ q => q.elim (fun q => h.fresh k g hk q) (fun q => by subst q; exact h.fs))


set_option maxRecDepth 100000 in
set_option maxHeartbeats 4000000 in
theorem enter34_new (h : Sight base w sw d vb B) {k : Nat} (hk : k < 2) (a : UInt64) (ha : ¬ (a.toNat : Int) = 0) (hin : a ∉ (d k).E) (hm : (d k).E.length + B.length ≤ 4398046511104) : Calls Tryd.prog 34 #[.pointer (some ⟨sw, 0, none⟩), .int .i64 k, .int .u64 a.toNat] w fun e w' =>
    e = .returned (.tuple #[]) ∧ ∃ d', Sight base w' sw d' vb B ∧ (∀ j, (d' j).E = if j = k then (d k).E ++ [a] else (d j).E) ∧ Turn (fun g => base ≤ g) w w' := by
  have hk' : (k : Int) < 2 := by omega
  have ha1 : ((a.toNat : Int) == 0) = false := by simpa using ha
  have c0 := h.c0 hk
  have hrl := recs_len B k
  have he := (h.side k hk).bk.enter1 a ha hin (by simp [maxLen]; omega)
  have hsl := (h.side k hk).len
  have hb1 : (((d k).ss.map ptr).length + 1) * 8 ≤ 140737488355328 := by simp [hsl]; omega
  have hb2 : (((d k).E.map u64V).length + 1) * 8 ≤ 140737488355328 := by simp; omega
  have hb3 : ((d k).ss.map ptr).length + 1 ≤ maxLen := by simp only [maxLen]; omega
  have hb4 : ((d k).E.map u64V).length + 1 ≤ maxLen := by simp only [maxLen]; omega
  clear hsl hrl hm
  go_enter Tryd.func34, Tryd.ntmps34
  go_wp2_with fail
  refine he.mono ?_
  rintro e w1 ⟨q, rfl, hq, sg1, bk1, t1⟩
  clear he c0
  obtain ⟨r1, os1, oa1⟩ := h.mid0 hk t1
  have he2 := entered43 w1 sw k (d k).va (d k).E a hk (row_at4 r1 hk) oa1
  rw [show decide (a ∈ (d k).E) = false by simpa using hin] at he2
  have G := fun {w1a w2 w3a w4 vs' va'} => h.grow (w1a := w1a) (w2 := w2) (w3a := w3a) (w4 := w4) (vs' := vs') (va' := va') hk hq t1 sg1 bk1
  have M := fun {w1a w2 vs'} => h.mid (q := q) (w1a := w1a) (w2 := w2) (vs' := vs') hk t1
  have c2 := row_at2 r1 hk
  clear h sg1 bk1 t1
  go_wp2_with fail
  refine he2.mono ?_
  rintro e w2 ⟨rfl, e1⟩
  have e1 := e1.symm
  subst e1
  go_wp2_with fail
  refine (numT _ 0).mono ?_
  rintro e w2 ⟨rfl, e1⟩
  have e1 := e1.symm
  subst e1
  obtain ⟨vsa, vsn, vsc, hvs⟩ := os1.shp
  rw [hvs] at c2 os1
  have hpl := r1.lt
  go_wp2_with fail
  go_region_law (refine step_append_src rfl (.tmp 49) (.tmp 51) rfl Tryd.underlying69 info24 rfl (.slice vsa vsn vsc) ((d k).ss.map ptr) (by simp [Act.eval]) (os1.turn_no (((Turn.refl no w1).drew).alloc _)) _ 1 [ptr q] (by simp [Act.eval]) (src_one Tryd.underlying69 w1.drew (ptr q) rfl) hb1 hb3 ?_; intro v1 w2 hown1 hgrew1
                 rw [← hvs] at hgrew1
                 have hM := M (((Turn.refl no w1).drew).alloc _) hown1 hgrew1
                 have f1 : w2.frozen? ⟨sw, 2 + k, none⟩ = false := hM.2.2.2.1.frozen _
                 have a1 := row_at2 hM.2.2.2.1 hk
                 obtain ⟨ad, ln, cp, hv1⟩ := hown1.shp
                 subst hv1)
  all_goals
    have r3 : Row (w2.setCell ⟨sw, 2 + k, none⟩ (.slice ad ln cp)) sw (sightC (updS d k { d k with vs := .slice ad ln cp }) vb) 74 := by
      have := hM.2.2.2.1.set (2 + k) (.slice ad ln cp)
      rcases (show k = 0 ∨ k = 1 by omega) with rfl | rfl <;> exact this
    have oa3 := hM.2.2.2.2.1
    have c4 : (w2.setCell ⟨sw, 2 + k, none⟩ (.slice ad ln cp)).cell? ⟨sw, 4 + k, none⟩ = some (d k).va := by
      have := row_at4 r3 hk
      simpa [updS] using this
    have hpl3 := r3.lt
    have G2 := fun {w3a w4 va'} => G (w3a := w3a) (w4 := w4) (va' := va') (((Turn.refl no w1).drew).alloc _) hown1 hgrew1
    clear G M hM hgrew1 hown1 a1 f1 r1 c2 os1 oa1 hpl
    generalize w2.setCell ⟨sw, 2 + k, none⟩ (.slice ad ln cp) = w3 at *
    obtain ⟨vaa, van, vac, hva⟩ := oa3.shp
    rw [hva] at c4 oa3
    go_wp2_with fail
    go_region_law (refine step_append_src rfl (.tmp 63) (.tmp 65) rfl Tryd.underlying67 info29 rfl (.slice vaa van vac) ((d k).E.map u64V) (by simp [Act.eval]) (oa3.turn_no (((Turn.refl no w3).drew).alloc _)) _ 1 [u64V a] (by simp [Act.eval]) (src_one Tryd.underlying67 w3.drew (u64V a) rfl) hb2 hb4 ?_; intro v2 w4 hown2 hgrew2
                   rw [← hva] at hgrew2
                   have hG := G2 (((Turn.refl no w3).drew).alloc _) hown2 hgrew2
                   have f1 : w4.frozen? ⟨sw, 4 + k, none⟩ = false := hG.1.frozen _
                   have a1 := row_at4 hG.1 hk
                   obtain ⟨ad2, ln2, cp2, hv2⟩ := hown2.shp
                   subst hv2)
  all_goals
    go_wp2_with fail
    go_end0
    exact ⟨rfl, hG.2⟩

theorem enter34 (h : Sight base w sw d vb B) {k : Nat} (hk : k < 2) (a : UInt64) (hm : (d k).E.length + B.length ≤ 4398046511104) : Calls Tryd.prog 34 #[.pointer (some ⟨sw, 0, none⟩), .int .i64 k, .int .u64 a.toNat] w fun e w' =>
    e = .returned (.tuple #[]) ∧ ∃ d', Sight base w' sw d' vb B ∧ (∀ j, (d' j).E = if j = k then entE (d k).E a else (d j).E) ∧ Turn (fun g => base ≤ g) w w' := by
  have same : ∀ j, (d j).E = if j = k then (d k).E else (d j).E := fun j => by
    split
    · next e => rw [e]
    · rfl
  by_cases ha : a.toNat = 0
  · have e0 : (a.toNat : Int) = 0 := by omega
    rw [e0]
    refine (enter34_zero h hk).mono fun e w' ⟨he, hw⟩ => ⟨he, d, by rw [hw]; exact h, by simp [entE, ha], by rw [hw]; exact Turn.refl _ _⟩
  · by_cases hin : a ∈ (d k).E
    · exact (enter34_twice h hk a (by omega) hin).mono fun e w' ⟨he, hS, t⟩ => ⟨he, d, hS, by simp [entE, ha, hin], t⟩
    · refine (enter34_new h hk a (by omega) hin hm).mono fun e w' ⟨he, d', hS, hE, t⟩ => ⟨he, d', hS, fun j => ?_, t⟩
      rw [hE j]
      simp [entE, ha, hin]
end
end Go.Proofs.YtnlcngcilojnkaaDoor
