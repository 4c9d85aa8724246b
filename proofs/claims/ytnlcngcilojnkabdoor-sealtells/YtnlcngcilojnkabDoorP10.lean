/- begin: two registries of the program and of the document. -/
import Derived.Test.YtnlcngcilojnkabDoorPa
namespace Go.Proofs.YtnlcngcilojnkabDoor
open Go.RowKit Go.Maps Go.MuLone
set_option linter.unusedVariables false

def pd0 (p br bt q : Nat) : Pd := ⟨p, br, bt, fun _ => .slice none 0 0, q, .slice none 0 0, .slice none 0 0, .slice none 0 0, .slice none 0 0, [], [], [], []⟩
/-- The two sides' cells while they are being made. -/
def t0C (a b c e : Value) : Array Value := #[a, b, c, e, .slice none 0 0, .slice none 0 0, .slice none 0 0, .slice none 0 0, .slice none 0 0]
theorem pfp0 {p br bt q g : Nat} (h : PFp (pd0 p br bt q) g) : g = p ∨ g = br ∨ g = bt ∨ g = q := by
  rcases h with (e | e | e | ⟨a, e⟩) | (e | e | e) | e | e | e | e
  · exact .inl e
  · exact .inr (.inl e)
  · exact .inr (.inr (.inl e))
  · cases e
  · exact .inr (.inr (.inr e))
  · cases e
  · cases e
  · cases e
  · cases e
  · cases e
  · cases e
theorem pz0 {w : World} {p br bt q : Nat} (b : Bk w p br bt (fun _ => .slice none 0 0) [] []) (r : Rf w q (.slice none 0 0) (.slice none 0 0) [] []) : Pz w (pd0 p br bt q) :=
  ⟨b, r, Own.nil _ _, Own.nil _ _, rfl, rfl, fun j s a h _ => by simp [pd0] at h, fun j s a h _ => by simp [pd0] at h, fun r h => by simp [pd0] at h⟩
/-- One side, new. -/
structure New1 (lo hi : Nat) (w : World) (p br bt q : Nat) : Prop where
  bk : Bk w p br bt (fun _ => .slice none 0 0) [] []
  rf : Rf w q (.slice none 0 0) (.slice none 0 0) [] []
  low : lo ≤ p ∧ lo ≤ br ∧ lo ≤ bt ∧ lo ≤ q
  high : p < hi ∧ br < hi ∧ bt < hi ∧ q < hi
theorem New1.turn {S : Nat → Prop} {lo hi : Nat} {w w' : World} {p br bt q : Nat} (h : New1 lo hi w p br bt q) (t : Turn S w w') (hS : ∀ g, g = p ∨ g = br ∨ g = bt ∨ g = q → ¬ S g) : New1 lo hi w' p br bt q :=
  ⟨h.bk.turn t (fun g hg => hS g (by rcases hg with e | e | e | ⟨a, e⟩; exact .inl e; exact .inr (.inl e); exact .inr (.inr (.inl e)); cases e)), h.rf.turn t (fun g hg => hS g (by rcases hg with e | e | e; exact .inr (.inr (.inr e)); cases e; cases e)), h.low, h.high⟩
theorem tw0 {base m : Nat} {w : World} {tw p0 br0 bt0 q0 p1 br1 bt1 q1 : Nat} (hb : base ≤ tw) (hw : base ≤ w.heap.size) (row : Row w tw (t0C (ptr p0) (ptr p1) (ptr q0) (ptr q1)) 44) (n0 : New1 base m w p0 br0 bt0 q0) (n1 : New1 m w.heap.size w p1 br1 bt1 q1) (hbm : base ≤ m) :
    Tw base w tw (fun k => if k = 0 then pd0 p0 br0 bt0 q0 else pd0 p1 br1 bt1 q1) (.slice none 0 0) [] := by
  refine ⟨row, fun k hk => ?_, fun g h0 h1 => ?_, OwnN.nil _ _ _, fun x hx => (by cases hx), fun k hk g hg => ?_, fun g q => (by cases q), hb, hw⟩
  · rcases two k hk with rfl | rfl
    · exact pz0 n0.bk n0.rf
    · exact pz0 n1.bk n1.rf
  · have a0 := pfp0 (p := p0) (br := br0) (bt := bt0) (q := q0) h0
    have a1 := pfp0 (p := p1) (br := br1) (bt := bt1) (q := q1) h1
    have := n0.high
    have := n1.low
    omega
  · rcases two k hk with rfl | rfl
    · have a0 := pfp0 (p := p0) (br := br0) (bt := bt0) (q := q0) hg
      have := n0.low
      omega
    · have a1 := pfp0 (p := p1) (br := br1) (bt := bt1) (q := q1) hg
      have := n1.low
      omega
/-- The making, round by round. -/
def Ph (w wr : World) (i : Nat) : Prop :=
  Turn no w wr ∧ ((i = 0 ∧ Row wr w.heap.size (t0C (.pointer none) (.pointer none) (.pointer none) (.pointer none)) 44) ∨
    (i = 1 ∧ ∃ p0 br0 bt0 q0, Row wr w.heap.size (t0C (ptr p0) (.pointer none) (ptr q0) (.pointer none)) 44 ∧ New1 w.heap.size wr.heap.size wr p0 br0 bt0 q0) ∨
    (i = 2 ∧ ∃ d, Tw w.heap.size wr w.heap.size d (.slice none 0 0) [] ∧ ∀ j, (d j).E = [] ∧ (d j).R = []))
theorem Ph.row {w wr : World} {i : Nat} (h : Ph w wr i) (hi : i < 2) : ∃ a c : Value, Row wr w.heap.size (if i = 0 then t0C (.pointer none) (.pointer none) (.pointer none) (.pointer none) else t0C a (.pointer none) c (.pointer none)) 44 := by
  obtain ⟨T, ⟨rfl, r⟩ | ⟨rfl, p0, br0, bt0, q0, r, _⟩ | ⟨rfl, _⟩⟩ := h
  · exact ⟨.pointer none, .pointer none, r⟩
  · exact ⟨_, _, r⟩
  · omega
theorem Ph.step {w wr wr1 wr3 : World} {p br bt q : Nat} {i : Nat} (h : Ph w wr i) (hi : i < 2) (t1 : Turn no wr wr1) (b : Bk wr1 p br bt (fun _ => .slice none 0 0) [] []) (f : wr.heap.size ≤ p ∧ wr.heap.size ≤ br ∧ wr.heap.size ≤ bt)
    (t3 : Turn no (wr1.setCell ⟨w.heap.size, i, none⟩ (ptr p)) wr3) (r : Rf wr3 q (.slice none 0 0) (.slice none 0 0) [] []) (hq : (wr1.setCell ⟨w.heap.size, i, none⟩ (ptr p)).heap.size ≤ q) :
    Ph w (wr3.setCell ⟨w.heap.size, 2 + i, none⟩ (ptr q)) (i + 1) ∧ wr3.cell? ⟨w.heap.size, i, none⟩ = some (ptr p) ∧ (wr3.setCell ⟨w.heap.size, 2 + i, none⟩ (ptr q)).cell? ⟨w.heap.size, i, none⟩ = some (ptr p) ∧ wr3.cell? ⟨w.heap.size, 2 + i, none⟩ = some (.pointer none) ∧ wr3.frozen? ⟨w.heap.size, 2 + i, none⟩ = false ∧ wr1.cell? ⟨w.heap.size, i, none⟩ = some (.pointer none) ∧ wr1.frozen? ⟨w.heap.size, i, none⟩ = false := by
  obtain ⟨T, h⟩ := h
  have hsz := T.size
  have s1 := t1.size
  have T2 : Turn no w (wr1.setCell ⟨w.heap.size, i, none⟩ (ptr p)) := (T.then_no t1).setCell (p := ⟨w.heap.size, i, none⟩) (fun q => absurd q (Nat.lt_irrefl _)) _
  have tS : Turn (fun g => g = w.heap.size) wr1 (wr1.setCell ⟨w.heap.size, i, none⟩ (ptr p)) := (Turn.refl (fun g => g = w.heap.size) wr1).setCell (p := ⟨w.heap.size, i, none⟩) (fun _ => rfl) _
  have T4 : Turn no w (wr3.setCell ⟨w.heap.size, 2 + i, none⟩ (ptr q)) := (T2.then_no t3).setCell (p := ⟨w.heap.size, 2 + i, none⟩) (fun q => absurd q (Nat.lt_irrefl _)) _
  have tU : Turn (fun g => g = w.heap.size) wr3 (wr3.setCell ⟨w.heap.size, 2 + i, none⟩ (ptr q)) := (Turn.refl (fun g => g = w.heap.size) wr3).setCell (p := ⟨w.heap.size, 2 + i, none⟩) (fun _ => rfl) _
  have s2 := tS.size
  have s3 := t3.size
  have s4 := tU.size
  have hql := r.row.lt
  have hpl : p < wr1.heap.size ∧ br < wr1.heap.size ∧ bt < wr1.heap.size := ⟨b.lt (.inl rfl), b.lt (.inr (.inl rfl)), b.lt (.inr (.inr (.inl rfl)))⟩
  rcases h with ⟨rfl, r0⟩ | ⟨rfl, p0, br0, bt0, q0, r0, n0⟩ | ⟨rfl, _⟩
  · have hwl := r0.lt
    have r1 := r0.turn t1 (fun q => q)
    have r2 := r1.set 0 (ptr p)
    have r3 := r2.turn t3 (fun q => q)
    have r4 := r3.set 2 (ptr q)
    have n : New1 w.heap.size (wr3.setCell ⟨w.heap.size, 2 + 0, none⟩ (ptr q)).heap.size (wr3.setCell ⟨w.heap.size, 2 + 0, none⟩ (ptr q)) p br bt q := by
      have b3 := (b.turn tS (fun g hg e => by subst e; exact b.away r1 (by decide) (by decide) hg)).turn_no t3
      exact ⟨b3.turn tU (fun g hg e => by subst e; exact b3.away r3 (by decide) (by decide) hg), r.turn tU (fun g hg e => by
        rcases hg with e' | e' | e'
        · omega
        · cases e'
        · cases e'), by omega, by omega⟩
    exact ⟨⟨T4, .inr (.inl ⟨rfl, p, br, bt, q, r4, n⟩)⟩, r3.cell 0 _ rfl, r4.cell 0 _ rfl, r3.cell 2 _ rfl, Row.frozen r3 2, r1.cell 0 _ rfl, Row.frozen r1 0⟩
  · have hwl := r0.lt
    have r1 := r0.turn t1 (fun q => q)
    have r2 := r1.set 1 (ptr p)
    have r3 := r2.turn t3 (fun q => q)
    have r4 := r3.set 3 (ptr q)
    have lo := n0.low
    have hiw := n0.high
    have nwt : ∀ g, g = p0 ∨ g = br0 ∨ g = bt0 ∨ g = q0 → ¬ g = w.heap.size := fun g hg e => by
      subst e
      have hp0 := n0.bk.away r0 (by decide) (by decide)
      rcases hg with e | e | e | e
      · exact hp0 (.inl e)
      · exact hp0 (.inr (.inl e))
      · exact hp0 (.inr (.inr (.inl e)))
      · exact absurd (tag_ne r0 (by rw [e]; exact n0.rf.row)) (by decide)
    have m0 : New1 w.heap.size wr.heap.size (wr3.setCell ⟨w.heap.size, 2 + 1, none⟩ (ptr q)) p0 br0 bt0 q0 := (((n0.turn t1 (fun _ _ e => e)).turn tS (fun g hg e => nwt g hg e)).turn t3 (fun _ _ e => e)).turn tU (fun g hg e => nwt g hg e)
    have m1 : New1 wr.heap.size (wr3.setCell ⟨w.heap.size, 2 + 1, none⟩ (ptr q)).heap.size (wr3.setCell ⟨w.heap.size, 2 + 1, none⟩ (ptr q)) p br bt q := by
      have b3 := (b.turn tS (fun g hg e => by subst e; exact b.away r1 (by decide) (by decide) hg)).turn_no t3
      exact ⟨b3.turn tU (fun g hg e => by subst e; exact b3.away r3 (by decide) (by decide) hg), r.turn tU (fun g hg e => by
        rcases hg with e' | e' | e'
        · omega
        · cases e'
        · cases e'), by omega, by omega⟩
    refine ⟨⟨T4, .inr (.inr ⟨rfl, _, tw0 (m := wr.heap.size) (Nat.le_refl _) T4.size r4 m0 m1 hsz, fun j => ?_⟩)⟩, r3.cell 1 _ rfl, r4.cell 1 _ rfl, r3.cell 3 _ rfl, Row.frozen r3 3, r1.cell 1 _ rfl, Row.frozen r1 1⟩
    by_cases hj : j = 0 <;> simp [hj, pd0]
  · omega
theorem neq34_nil (a : Addr) (W : World) : (binOp .neq 34 (.pointer (some a)) (.pointer none)).run Tryd.prog W = .ok (.bool true) W := by
  have h : ∀ d : Nat, (Op.equalIn (d + 1) 34 (.pointer (some a)) (.pointer none)).run Tryd.prog W = .ok false W := fun d => by
    simp [Op.equalIn, run_underlying Tryd.underlying34]
  simp only [binOp]
  simp [Op.equal, Op.maxDepth, h 9999]
set_option maxRecDepth 100000 in
set_option maxHeartbeats 4000000 in
theorem begin9 (w : World) : Calls Tryd.prog 9 #[] w fun e w' => e = .returned (.tuple #[.pointer (some ⟨w.heap.size, 0, none⟩), .bool true]) ∧ ∃ d, Tw w.heap.size w' w.heap.size d (.slice none 0 0) [] ∧ (∀ j, (d j).E = [] ∧ (d j).R = []) ∧ Turn no w w' := by
  have P0 : Ph w (w.alloc (.cells #[.pointer none, .pointer none, .pointer none, .pointer none, .slice none 0 0, .slice none 0 0, .slice none 0 0, .slice none 0 0, .slice none 0 0] 44)) 0 := ⟨(Turn.refl no w).alloc _, .inl ⟨rfl, Row.new w _ 44⟩⟩
  have e1 := fun a W => neq34_nil a W
  go_enter Tryd.func9, Tryd.ntmps9
  go_wp2_with fail
  obtain ⟨tw, htw⟩ : ∃ t, w.heap.size = t := ⟨_, rfl⟩
  generalize w.alloc (.cells #[.pointer none, .pointer none, .pointer none, .pointer none, .slice none 0 0, .slice none 0 0, .slice none 0 0, .slice none 0 0, .slice none 0 0] 44) = w1 at *
  rw [htw]
  go_loopw [3, 4] (fun b c wr => ∃ i : Nat, i ≤ 2 ∧ b = .bool true ∧ c = .int .i64 i ∧ Ph w wr i) (fun _ c _ => 2 - (intOf c).toNat)
  case atStart => exact ⟨0, by omega, rfl, rfl, P0⟩
  case round =>
    clear P0
    obtain ⟨i, hi, rfl, rfl, P⟩ := hrel
    by_cases hlt : i < 2
    · have hlt' : (i : Int) < 2 := by omega
      have hst := fun {p br bt q : Nat} {wr1 wr3 : World} => P.step (p := p) (br := br) (bt := bt) (q := q) (wr1 := wr1) (wr3 := wr3) hlt
      rw [htw] at hst
      have Pr := P.row hlt
      have hnew := bk_new wr.drew
      clear P
      go_wp2_with fail
      refine wp_region_noPanic ?_
      refine wp_region_held_drew (S := fun W => True) (by kernel_rfl) trivial (fun hHeld => ?_)
      refine' wpAnyH_take (i := 0) (v := .pointer (some ⟨tw, 0, none⟩)) rfl (by kernel_rfl) (by kernel_rfl) (by kernel_rfl) (fun _ _ _ h => h) (Or.inl ⟨by kernel_rfl, fun W hW => ?y1⟩) hHeld ?r1
      · go_simp
      refine' wpAnyH_take (i := 1) (v := .int .i64 i) rfl (by kernel_rfl) (by kernel_rfl) (by kernel_rfl) (fun _ _ _ h => h) (Or.inl ⟨by kernel_rfl, fun W hW => ?y2⟩) hHeld ?r2
      · go_simp
      refine' wpAnyH_take (i := 3) (v := .pointer (some ⟨tw, 0, none⟩)) rfl (by kernel_rfl) (by kernel_rfl) (by kernel_rfl) (fun _ _ _ h => h) (Or.inl ⟨by kernel_rfl, fun W hW => ?y3⟩) hHeld ?r3
      · go_simp
      refine' wpAnyH_take (i := 4) (v := .pointer (some ⟨tw, 0, none⟩)) rfl (by kernel_rfl) (by kernel_rfl) (by kernel_rfl) (fun _ _ _ h => h) (Or.inl ⟨by kernel_rfl, fun W hW => ?y4⟩) hHeld ?r4
      · go_simp
      refine wpAnyH_ready (rs := [2]) (by kernel_rfl) (by simp) ?_
      refine AllReadyH.cons rfl (fun K hK => ?_) AllReadyH.nil
      go_simp
      refine hnew.mono ?_
      rintro e wr1 ⟨p, br, bt, rfl, f1, f2, f3, b, t1⟩
      refine hK.out _ _ trivial (fun hHeld => ?_)
      clear hK hnew
      have t01 : Turn no wr wr1 := ((Turn.refl no wr).drew).then_no t1
      obtain ⟨pa, pc, r⟩ := Pr
      rw [htw] at r
      have r1 := r.turn t01 (fun q => q)
      have hc1 : wr1.cell? ⟨tw, i, none⟩ = some (.pointer none) ∧ wr1.frozen? ⟨tw, i, none⟩ = false := by
        rcases two i hlt with rfl | rfl
        · exact ⟨r1.cell 0 _ rfl, Row.frozen r1 0⟩
        · exact ⟨r1.cell 1 _ rfl, Row.frozen r1 1⟩
      obtain ⟨hc1, hf1⟩ := hc1
      refine' wpAnyH_take (i := 5) (v := .pointer (some ⟨tw, i, none⟩)) rfl (by kernel_rfl) (by kernel_rfl) (by kernel_rfl) (fun _ _ _ h => h) (Or.inl ⟨by kernel_rfl, fun W hW => ?y5⟩) hHeld ?r5
      · go_simp
      refine wpAnyH_ready (rs := [6]) (by kernel_rfl) (by simp) ?_
      refine AllReadyH.cons rfl (fun K hK => ?_) AllReadyH.nil
      go_simp
      refine hK.out _ _ trivial (fun hHeld => ?_)
      clear hK
      refine wpAnyH_done (by kernel_rfl) ?_ _
      refine NoPanic.normal ?_
      go_simp
      have hst2 := fun {q : Nat} {wr3 : World} => hst (q := q) (wr3 := wr3) t01 b ⟨f1, f2, f3⟩
      have hnew2 := rnew19 (wr1.setCell ⟨tw, i, none⟩ (.pointer (some ⟨p, 0, none⟩))).drew
      have hc2 : (wr1.setCell ⟨tw, i, none⟩ (.pointer (some ⟨p, 0, none⟩))).cell? ⟨tw, 2 + i, none⟩ = some (.pointer none) ∧ (wr1.setCell ⟨tw, i, none⟩ (.pointer (some ⟨p, 0, none⟩))).frozen? ⟨tw, 2 + i, none⟩ = false ∧ Row (wr1.setCell ⟨tw, i, none⟩ (.pointer (some ⟨p, 0, none⟩))) tw ((if i = 0 then t0C (.pointer none) (.pointer none) (.pointer none) (.pointer none) else t0C pa (.pointer none) pc (.pointer none)).setIfInBounds i (.pointer (some ⟨p, 0, none⟩))) 44 := by
        have r2 := r1.set i (.pointer (some ⟨p, 0, none⟩))
        rcases two i hlt with rfl | rfl
        · exact ⟨r2.cell 2 _ rfl, Row.frozen r2 2, r2⟩
        · exact ⟨r2.cell 3 _ rfl, Row.frozen r2 3, r2⟩
      obtain ⟨hc2, hf2, r2⟩ := hc2
      obtain ⟨wr2, hw2⟩ : ∃ x, wr1.setCell ⟨tw, i, none⟩ (.pointer (some ⟨p, 0, none⟩)) = x := ⟨_, rfl⟩
      have hst3 : ∀ (q : Nat) (wr3 : World), Turn no wr2 wr3 → Rf wr3 q (.slice none 0 0) (.slice none 0 0) [] [] → wr2.heap.size ≤ q → Ph w (wr3.setCell ⟨tw, 2 + i, none⟩ (ptr q)) (i + 1) ∧ (wr3.setCell ⟨tw, 2 + i, none⟩ (ptr q)).cell? ⟨tw, i, none⟩ = some (ptr p)   := fun q wr3 x y z => by
        have := hst2 (q := q) (wr3 := wr3) (by rw [show ptr p = .pointer (some ⟨p, 0, none⟩) from rfl, hw2]; exact x) y (by rw [show ptr p = .pointer (some ⟨p, 0, none⟩) from rfl, hw2]; exact z)
        exact ⟨this.1, this.2.2.1⟩
      rw [hw2] at hnew2 hc2 hf2 r2 ⊢
      have HS3 := shutX hst3
      clear hst hst2 hst3 hw2 b t1 t01 f1 f2 f3 hc1 hf1 r r1 hHeld
      have c2t := fun W (t : Turn no wr2 W) => And.intro (t.keep hc2 (fun q => q)) (Row.frozen (r2.turn t (fun q => q)) (2 + i))
      go_wp2_with fail
      refine wp_region_noPanic ?_
      refine wp_region_held_drew (S := fun W => True) (by kernel_rfl) trivial (fun hHeld => ?_)
      refine' wpAnyH_take (i := 0) (v := .pointer (some ⟨tw, 0, none⟩)) rfl (by kernel_rfl) (by kernel_rfl) (by kernel_rfl) (fun _ _ _ h => h) (Or.inl ⟨by kernel_rfl, fun W hW => ?y6⟩) hHeld ?r6
      · go_simp
      refine' wpAnyH_take (i := 1) (v := .int .i64 i) rfl (by kernel_rfl) (by kernel_rfl) (by kernel_rfl) (fun _ _ _ h => h) (Or.inl ⟨by kernel_rfl, fun W hW => ?y7⟩) hHeld ?r7
      · go_simp
      refine' wpAnyH_take (i := 3) (v := .pointer (some ⟨tw, 0, none⟩)) rfl (by kernel_rfl) (by kernel_rfl) (by kernel_rfl) (fun _ _ _ h => h) (Or.inl ⟨by kernel_rfl, fun W hW => ?y8⟩) hHeld ?r8
      · go_simp
      refine' wpAnyH_take (i := 4) (v := .pointer (some ⟨tw, 2, none⟩)) rfl (by kernel_rfl) (by kernel_rfl) (by kernel_rfl) (fun _ _ _ h => h) (Or.inl ⟨by kernel_rfl, fun W hW => ?y9⟩) hHeld ?r9
      · go_simp
      refine wpAnyH_ready (rs := [2]) (by kernel_rfl) (by simp) ?_
      refine AllReadyH.cons rfl (fun K hK => ?_) AllReadyH.nil
      go_simp
      refine hnew2.mono ?_
      rintro e wr3 ⟨rfl, rf3, t3⟩
      refine hK.out _ _ trivial (fun hHeld => ?_)
      clear hK hnew2
      have t23 : Turn no wr2 wr3 := ((Turn.refl no wr2).drew).then_no t3
      obtain ⟨hc3, hf3⟩ := c2t wr3 t23
      obtain ⟨hP, hcp⟩ := HS3.out _ _ t23 rf3 (by simp)
      refine' wpAnyH_take (i := 5) (v := .pointer (some ⟨tw, 2 + i, none⟩)) rfl (by kernel_rfl) (by kernel_rfl) (by kernel_rfl) (fun _ _ _ h => h) (Or.inl ⟨by kernel_rfl, fun W hW => ?y10⟩) hHeld ?r10
      · go_simp
      refine wpAnyH_ready (rs := [6]) (by kernel_rfl) (by simp) ?_
      refine AllReadyH.cons rfl (fun K hK => ?_) AllReadyH.nil
      go_simp
      refine hK.out _ _ trivial (fun hHeld => ?_)
      clear hK
      refine wpAnyH_done (by kernel_rfl) ?_ _
      refine NoPanic.normal ?_
      go_simp
      have hP' : Ph w (wr3.setCell ⟨tw, 2 + i, none⟩ (.pointer (some ⟨wr2.heap.size, 0, none⟩))) (i + 1) := hP
      have hcp' : (wr3.setCell ⟨tw, 2 + i, none⟩ (.pointer (some ⟨wr2.heap.size, 0, none⟩))).cell? ⟨tw, i, none⟩ = some (.pointer (some ⟨p, 0, none⟩)) := hcp
      have HP := shutX hP'
      clear hP hcp hP' hc3 hf3 t23 t3 rf3 c2t HS3 hc2 hf2 r2
      generalize wr3.setCell ⟨tw, 2 + i, none⟩ (.pointer (some ⟨wr2.heap.size, 0, none⟩)) = wr4 at *
      go_wp2_with fail
      refine ⟨⟨i + 1, by omega, rfl, ?_, HP.out⟩, ?_⟩
      · first | rfl | (simp only [intOf]; omega) | (congr 1)
      · simp only [intOf]; omega
    · obtain rfl : i = 2 := by omega
      obtain ⟨T, ⟨e, _⟩ | ⟨e, _⟩ | ⟨_, d, hT, hd⟩⟩ := P
      · omega
      · omega
      · rw [htw] at hT
        go_wp2_with fail
        refine ⟨rfl, _, results_tmp2 rfl _ _ _, rfl, d, hT, hd, T⟩
end Go.Proofs.YtnlcngcilojnkabDoor
