/- The document's Writer; paper. -/
import Derived.Test.YtfjdojodbhmmaaaX1
namespace Go.Proofs.Ytfjdojodbhmmaaa
open Go.RowKit
set_option linter.unusedVariables false

set_option maxRecDepth 100000 in
theorem rtext63 (w : World) (B : List UInt8) (hle : B.length + 20 ≤ 140737488355328) : Calls Try.prog 63 #[.string ⟨B.toArray⟩] w fun e w' => ∃ v, e = .returned v ∧ Fr w w' v (varE B.length ++ B) := by
  have cv := rvar61 w B.length (by omega)
  have hvl := varE_le B.length
  have hcv := fun W => Lib.run_convert_string_bytes (P := Try.prog) W 9 25 5 ⟨B.toArray⟩ Try.underlying9 Try.underlying25 Try.underlying5
  obtain ⟨x, hx⟩ : ∃ x : ByteArray, (⟨B.toArray⟩ : ByteArray) = x := ⟨_, rfl⟩
  have hxl : x.size = B.length := by rw [← hx]; simp [ByteArray.size]
  have hxd : x.data.toList = B := by rw [← hx]
  have hsr := fun W => (bytesWorld_bs W x (by rw [hxl]; unfold maxLen; omega)).src (P := Try.prog) Try.underlying25
  rw [hxd] at hsr
  have hbt := fun W => bytesWorld_turn W 5 x
  rw [hx] at hcv ⊢
  obtain ⟨N, hN⟩ : ∃ N, B.length = N := ⟨_, rfl⟩
  rw [hN] at hsr cv hle hvl hxl ⊢
  simp only [hxl] at hsr hcv
  have Hsr := shutX hsr
  have Hbt := shutX hbt
  clear hsr hN hbt hxd hx
  have hN63 : (N : Int) < 18446744073709551616 := by omega
  have hxi : (x.size : Int) = (N : Int) := by omega
  clear hxl
  generalize varE N = E at *
  go_enter Try.func63, Try.ntmps63
  go_wp2_with (first | (go_at_call 61; refine cv.mono ?_; rintro e w1 ⟨v, rfl, F⟩; obtain ⟨ad, ln, cp, rfl⟩ := F.form) | (at_builtin; refine wpList_append_src rfl (.tmp 6) (.tmp 8) rfl Try.underlying25 Try.info5 rfl _ (E.map bv) rfl (F.own.turn_no (Hbt.out w1)) _ N (B.map bv) rfl (Hsr.out w1) ?b ?m ?_; rotate_left 2; intro v1 w1' o1 g1 _))
  case b => first | omega | (simp; omega)
  case m => first | (unfold maxLen; omega) | (simp [maxLen]; omega)
  have F1 := F.append (Hbt.out _) o1 g1
  obtain ⟨ad, ln, cp, rfl⟩ := o1.form
  go_wp2_with fail
  go_ret
  exact ⟨_, rfl, F1⟩

/-- The document's Writer at q. -/
structure Rx (w : World) (q : Nat) (v : Value) (bs : List UInt8) (e : Int) : Prop where
  blk : w.heap[q]? = some (.cells #[v, .int .i64 e] 54 (0, 0))
  own : Own w 5 v (bs.map bv)
section
variable {w : World} {q : Nat} {v : Value} {bs : List UInt8} {e : Int}
theorem Rx.c0 (h : Rx w q v bs e) : w.cell? ⟨q, 0, none⟩ = some v := by rw [cell_of_row w q 0 _ 54 (0, 0) h.blk]; rfl
theorem Rx.c1 (h : Rx w q v bs e) : w.cell? ⟨q, 1, none⟩ = some (.int .i64 e) := by rw [cell_of_row w q 1 _ 54 (0, 0) h.blk]; rfl
theorem Rx.f (h : Rx w q v bs e) (j : Nat) : w.frozen? ⟨q, j, none⟩ = false := frozen_of_row w q j _ 54 h.blk
theorem Rx.lt (h : Rx w q v bs e) : q < w.heap.size := lt_of_obj h.blk
theorem Rx.turn {S : Nat → Prop} {w' : World} (h : Rx w q v bs e) (ht : Turn S w w') (hn : ∀ k, wfoot q v k → ¬ S k) : Rx w' q v bs e :=
  ⟨ht.obj h.blk (hn q (.inl rfl)), h.own.turn ht (fun g hg => hn g (.inr hg))⟩
theorem Rx.turn_no {w' : World} (h : Rx w q v bs e) (ht : Turn no w w') : Rx w' q v bs e := h.turn ht (fun _ _ q => q)
theorem Rx.ne (h : Rx w q v bs e) : v.ownBlock ≠ some q := fun hg => by
  rcases h.own.shape with ⟨rfl, _⟩ | ⟨g, cap, cur, rfl, ho, _⟩
  · cases hg
  · simp [Value.ownBlock] at hg
    subst hg
    have := h.blk.symm.trans ho
    simp at this
end
/-- What a call leaves of it. -/
def RLaid (w : World) (q : Nat) (v : Value) (bs : List UInt8) (e : Int) (w' : World) : Prop := ∃ v', Rx w' q v' bs e ∧ Turn (wfoot q v) w w' ∧ Near w v v'
theorem RLaid.refl {w : World} {q : Nat} {v : Value} {bs : List UInt8} {e : Int} (h : Rx w q v bs e) : RLaid w q v bs e w := ⟨v, h, Turn.refl _ _, Or.inl rfl⟩
theorem RLaid.pre {w w0 w' : World} {q : Nat} {v : Value} {bs bs' : List UInt8} {e e' : Int} (h : RLaid w0 q v bs' e' w') (t : Turn no w w0) : RLaid w q v bs' e' w' := by
  obtain ⟨v', h1, h2, h3⟩ := h
  refine ⟨v', h1, t.of_no.trans h2 (fun _ _ q => q), ?_⟩
  rcases h3 with q | ⟨g, q, r⟩
  · exact Or.inl q
  · exact Or.inr ⟨g, q, by have := t.size; omega⟩
theorem Rx.stored {w w1 : World} {q : Nat} {v v' : Value} {bs X : List UInt8} (h : Rx w q v bs 0) (ho : Own w1 5 v' (bs.map bv ++ X.map bv)) (hg : Grew w w1 v v') : RLaid w q v (bs ++ X) 0 (w1.setCell ⟨q, 0, none⟩ v') := by
  have hq1 : w1.heap[q]? = some (.cells #[v, .int .i64 0] 54 (0, 0)) := hg.turn.obj h.blk h.ne
  have hv' : v'.ownBlock ≠ some q := fun e => by
    rcases hg.blk with r | ⟨g, r, h1, _⟩
    · exact h.ne (by rw [← r]; exact e)
    · rw [r] at e; cases e; have := h.lt; omega
  refine ⟨v', ⟨?_, ?_⟩, ?_, ?_⟩
  · have := heap_setCell_same w1 q 0 _ 54 v' hq1
    simpa using this
  · rw [List.map_append]
    exact ho.turn ((Turn.refl (fun k => k = q) w1).setCell (p := ⟨q, 0, none⟩) (fun _ => rfl) v') (fun g hg e => hv' (by rw [hg, e]))
  · exact (hg.turn.mono (fun i _ q => .inr q)).setCell (p := ⟨q, 0, none⟩) (fun _ => .inl rfl) v'
  · rcases hg.blk with r | ⟨g, r, h1, _⟩
    · exact .inl r
    · exact .inr ⟨g, r, h1⟩

set_option maxRecDepth 100000 in
theorem put57 (w : World) (q : Nat) (v : Value) (bs : List UInt8) (h : Rx w q v bs 0) (vx : Value) (X : List UInt8) (hx : Bs w vx X) (hle : bs.length + X.length ≤ 140737488355328) :
    Calls Try.prog 57 #[.pointer (some ⟨q, 0, none⟩), vx] w fun e w' => e = .returned (.tuple #[]) ∧ RLaid w q v (bs ++ X) 0 w' := by
  have c0 := h.c0
  have c1 := h.c1
  have hsr := hx.src (P := Try.prog) Try.underlying25
  obtain ⟨N, hN⟩ : ∃ N, X.length = N := ⟨_, rfl⟩
  obtain ⟨ax, cx, rfl⟩ := hx.slice
  obtain ⟨av, nv, cv, rfl⟩ := h.own.form
  rw [hN] at hsr hle ⊢
  have hb : (List.map bv bs).length = bs.length := by simp
  have Hf := shutX (And.intro h hN)
  clear hN hx
  go_enter Try.func57, Try.ntmps57
  go_wp2_with (at_builtin; refine wpList_append_src rfl (.tmp 13) (.tmp 14) rfl Try.underlying25 Try.info5 rfl _ (bs.map bv) rfl h.own _ N (X.map bv) rfl hsr ?b ?m ?_)
  case b => first | omega | (simp; omega)
  case m => first | (unfold maxLen; omega) | (simp [maxLen]; omega)
  intro v1 w1 o1 g1 _
  have R := h.stored o1 g1
  have c0' : w1.cell? ⟨q, 0, none⟩ = some (.slice av nv cv) := g1.turn.keep c0 h.ne
  have f0' : w1.frozen? ⟨q, 0, none⟩ = false := by
    rw [g1.turn.frozen (p := ⟨q, 0, none⟩) h.lt h.ne]
    exact h.f 0
  obtain ⟨ad, ln, cp, rfl⟩ := o1.form
  have HR := shutX R
  clear R o1 g1 c0 c1 h hsr
  go_wp2_with fail
  go_end0
  exact ⟨rfl, HR.out⟩
theorem put57_err (w : World) (q : Nat) (v : Value) (bs : List UInt8) (e0 : Int) (h0 : (e0 == 0) = false) (h : Rx w q v bs e0) (a : Option Addr) (n c : Nat) :
    Calls Try.prog 57 #[.pointer (some ⟨q, 0, none⟩), .slice a n c] w fun e w' => e = .returned (.tuple #[]) ∧ w' = w := by
  have c1 := h.c1
  go_enter Try.func57, Try.ntmps57
  go_wp2_with fail
  go_end0
  exact ⟨rfl, rfl⟩
set_option maxRecDepth 100000 in
theorem rcount64 (w : World) (q : Nat) (v : Value) (bs : List UInt8) (h : Rx w q v bs 0) (n : Nat) (hn : n < 9223372036854775808) (hle : bs.length + 10 ≤ 140737488355328) :
    Calls Try.prog 64 #[.pointer (some ⟨q, 0, none⟩), .int .i64 n] w fun e w' => e = .returned (.tuple #[]) ∧ RLaid w q v (bs ++ varE n) 0 w' := by
  have c1 := h.c1
  have hn' : ¬ (n : Int) < 0 := by omega
  have hn2 : (n : Int) < 18446744073709551616 := by omega
  have cv := rvar61 w n (by omega)
  have hvl := varE_le n
  generalize varE n = E at *
  have Hh := shutX h
  clear h
  go_enter Try.func64, Try.ntmps64
  go_wp2_with (first | (go_at_call 61; refine cv.mono ?_; rintro e w1 ⟨vx, rfl, F⟩; obtain ⟨ad, ln, cp, rfl⟩ := F.form) | (go_at_call 57; refine (put57 _ q v bs (Hh.out.turn_no F.turn) _ E F.own.bs (by omega)).mono ?_; rintro e w2 ⟨rfl, R⟩))
  go_end0
  exact ⟨rfl, R.pre (bs := bs) (e := 0) F.turn⟩
theorem rcount64_neg (w : World) (q : Nat) (v : Value) (bs : List UInt8) (h : Rx w q v bs 0) (n : Int) (hn : n < 0) :
    Calls Try.prog 64 #[.pointer (some ⟨q, 0, none⟩), .int .i64 n] w fun e w' => e = .returned (.tuple #[]) ∧ RLaid w q v bs 2 w' := by
  have c1 := h.c1
  have f1 := h.f 1
  have R : RLaid w q v bs 2 (w.setCell ⟨q, 1, none⟩ (.int .i64 2)) := by
    have hb := heap_setCell_same w q 1 _ 54 (.int .i64 2) h.blk
    refine ⟨v, ⟨by simpa using hb, h.own.turn ((Turn.refl (fun k => k = q) w).setCell (p := ⟨q, 1, none⟩) (fun _ => rfl) _) (fun g hg e => h.ne (by rw [hg, e]))⟩, (Turn.refl _ w).setCell (p := ⟨q, 1, none⟩) (fun _ => .inl rfl) _, .inl rfl⟩
  have HR := shutX R
  clear R h
  go_enter Try.func64, Try.ntmps64
  go_wp2_with fail
  exact bodyPost_ret (v := .tuple #[]) (by simp [results, Try.results64, go_sem]) rfl ⟨rfl, HR.out⟩
theorem rcount64_err (w : World) (q : Nat) (v : Value) (bs : List UInt8) (e0 : Int) (h0 : (e0 != 0) = true) (h : Rx w q v bs e0) (n : Int) :
    Calls Try.prog 64 #[.pointer (some ⟨q, 0, none⟩), .int .i64 n] w fun e w' => e = .returned (.tuple #[]) ∧ w' = w := by
  have c1 := h.c1
  go_enter Try.func64, Try.ntmps64
  go_wp2_with fail
  exact bodyPost_ret (v := .tuple #[]) (by simp [results, Try.results64, go_sem]) rfl ⟨rfl, rfl⟩
end Go.Proofs.Ytfjdojodbhmmaaa
