/- Walks: a Writer that was made: all that it lays down. -/
import Derived.Test.YtgimecdmleofeaaDoorV1
import Derived.Test.YtgimecdmleofeaaDoorW6
namespace Go.Proofs.YtgimecdmleofeaaDoor
open Go.RowKit
set_option linter.unusedVariables false

/-- What laying bytes down does. -/
def Laid (w : World) (p : Nat) (v : Value) (bs : List UInt8) (e : Int) (w' : World) : Prop := ∃ v', Wr w' p v' bs e ∧ Turn (wfoot p v) w w' ∧ Near w v v'

theorem Laid.refl {w : World} {p : Nat} {v : Value} {bs : List UInt8} {e : Int} (h : Wr w p v bs e) : Laid w p v bs e w := ⟨v, h, Turn.refl _ _, Or.inl rfl⟩

theorem near_turn {w w1 w2 : World} {p : Nat} {v v1 : Value} (h1 : Turn (wfoot p v) w w1) (n1 : Near w v v1) (h2 : Turn (wfoot p v1) w1 w2) : Turn (wfoot p v) w w2 :=
  h1.trans h2 (fun i hi q => by
    rcases q with q | q
    · exact Or.inl q
    · rcases n1 with r | ⟨g, r, hg⟩
      · rw [r] at q; exact Or.inr q
      · rw [r] at q; cases q; omega)

theorem near_near {w w1 : World} {v v1 v2 : Value} (hs : w.heap.size ≤ w1.heap.size) (n1 : Near w v v1) (n2 : Near w1 v1 v2) : Near w v v2 := by
  rcases n2 with r | ⟨g, r, hg⟩
  · unfold Near; rw [r]; exact n1
  · exact Or.inr ⟨g, r, by omega⟩

theorem varF_le : ∀ (f n : Nat), (varF f n).length ≤ f
  | 0, _ => by simp [varF]
  | f + 1, n => by
    unfold varF
    split
    · simp
    · have := varF_le f (n / 128)
      simp
      omega
theorem varE_le (n : Nat) : (varE n).length ≤ 10 := varF_le 10 n

/-- A source of bytes: a slice or a text. -/
theorem src_text (s : ByteArray) (w : World) : Src Tryd.prog 1 9 (.string s) s.size (s.data.toList.map bv) w := Src.ofString w Tryd.underlying9 s

set_option maxRecDepth 100000 in
set_option maxHeartbeats 1000000 in
theorem layAll96 (w : World) (p : Nat) (v : Value) (bs : List UInt8) (h : Wr w p v bs 0) (x : Value) (B : List UInt8) (hx : Bs w x B) (hle : bs.length + B.length ≤ 140737488355328) :
    Calls Tryd.prog 94 #[.pointer (some ⟨p, 0, none⟩), x] w fun e w' => e = .returned (.tuple #[]) ∧ Laid w p v (bs ++ B) 0 w' := by
  have hfault := h.fault
  have c1 := h.c1
  go_enter Tryd.func94, Tryd.ntmps94
  go_wp2_with (first | (go_at_call 96; refine (fault_any _ _ _ hfault).mono ?_; rintro e w' ⟨rfl, rfl⟩) | (at_builtin; refine wpList_append_src rfl (.tmp 11) (.tmp 12) rfl Tryd.underlying70 Tryd.info5 rfl _ (bs.map bv) rfl h.own _ B.length (B.map bv) rfl ?src ?b ?m ?_))
  case src => exact Bs.src Tryd.underlying70 hx
  case b => first | omega | (simp; omega)
  case m => first | (unfold maxLen; omega) | (simp [maxLen]; omega)
  intro v1 w1 hown1 hgrew1 _
  have hown1 : Own w1 5 v1 ((bs ++ B).map bv) := by simpa using hown1
  have hA := h.append (Turn.refl no w) hown1 hgrew1 (Turn.refl _ _) (Or.inl rfl)
  obtain ⟨a1, f1⟩ := Wr.at1 h hgrew1
  obtain ⟨ad, ln, cp, rfl⟩ := hown1.form
  clear hgrew1 hown1
  go_wp2_with fail
  go_end0
  exact ⟨rfl, _, hA⟩

set_option maxRecDepth 100000 in
set_option maxHeartbeats 1000000 in
theorem layAll106 (w : World) (p : Nat) (v : Value) (bs : List UInt8) (h : Wr w p v bs 0) (x : ByteArray) (hle : bs.length + x.size ≤ 140737488355328) :
    Calls Tryd.prog 114 #[.pointer (some ⟨p, 0, none⟩), .string x] w fun e w' => e = .returned (.tuple #[]) ∧ Laid w p v (bs ++ x.data.toList) 0 w' := by
  have hfault := h.fault
  have c1 := h.c1
  go_enter Tryd.func114, Tryd.ntmps114
  go_wp2_with (first | (go_at_call 96; refine (fault_any _ _ _ hfault).mono ?_; rintro e w' ⟨rfl, rfl⟩) | (at_builtin; refine wpList_append_src rfl (.tmp 11) (.tmp 12) rfl Tryd.underlying70 Tryd.info5 rfl _ (bs.map bv) rfl h.own _ x.size (x.data.toList.map bv) rfl ?src ?b ?m ?_))
  case src => exact src_text x _
  case b => first | omega | (simp; omega)
  case m => first | (unfold maxLen; omega) | (simp [maxLen]; omega)
  intro v1 w1 hown1 hgrew1 _
  have hown1 : Own w1 5 v1 ((bs ++ x.data.toList).map bv) := by simpa using hown1
  have hA := h.append (Turn.refl no w) hown1 hgrew1 (Turn.refl _ _) (Or.inl rfl)
  obtain ⟨a1, f1⟩ := Wr.at1 h hgrew1
  obtain ⟨ad, ln, cp, rfl⟩ := hown1.form
  clear hgrew1 hown1
  go_wp2_with fail
  go_end0
  exact ⟨rfl, _, hA⟩

set_option maxRecDepth 100000 in
set_option maxHeartbeats 1000000 in
theorem layCounted98 (w : World) (p : Nat) (v : Value) (bs : List UInt8) (h : Wr w p v bs 0) (x : ByteArray) (hne : True) (hle : bs.length + x.size + 10 ≤ 140737488355328) :
    Calls Tryd.prog 95 #[.pointer (some ⟨p, 0, none⟩), .string x] w fun e w' => e = .returned (.tuple #[]) ∧ Laid w p v (bs ++ (varE x.size ++ x.data.toList)) 0 w' := by
  have hb1 : (x.size : Int) ≤ 140737488355328 := by omega
  go_enter Tryd.func95, Tryd.ntmps95
  go_wp2_with fail
  refine (var_made _ _ _ bs x.size (by omega) h (by omega)).mono ?_
  rintro e w1 ⟨rfl, v1, h1, t1, n1⟩
  have hvl := varE_le x.size

  go_wp2_with fail
  refine (layAll106 _ _ _ (bs ++ varE x.size) h1 x (by simp; omega)).mono ?_
  rintro e w2 ⟨rfl, v2, h2, t2, n2⟩
  go_wp2_with fail
  go_end0
  rw [List.append_assoc] at h2
  exact ⟨rfl, v2, h2, near_turn t1 n1 t2, near_near t1.size n1 n2⟩

set_option maxRecDepth 100000 in
set_option maxHeartbeats 1000000 in
theorem wbyte_made (w : World) (p : Nat) (v : Value) (bs : List UInt8) (h : Wr w p v bs 0) (n : Nat) (hn : n < 256) (hle : bs.length + 10 ≤ 140737488355328) :
    Calls Tryd.prog 51 #[.pointer (some ⟨p, 0, none⟩), .int .u8 n] w fun e w' => e = .returned (.tuple #[]) ∧ Laid w p v (bs ++ leB n 1) 0 w' := by
  go_enter Tryd.func51, Tryd.ntmps51
  go_wp2_with (go_at_call 92; refine (fixed_made _ _ _ bs n 1 (by omega) (by omega) h hle).mono ?_; rintro e w' ⟨rfl, k1⟩)
  go_end0
  exact ⟨rfl, k1⟩

set_option maxRecDepth 100000 in
set_option maxHeartbeats 1000000 in
theorem wraw_made (w : World) (p : Nat) (v : Value) (bs : List UInt8) (h : Wr w p v bs 0) (x : Value) (B : List UInt8) (hx : Bs w x B) (hle : bs.length + B.length + 10 ≤ 140737488355328) :
    Calls Tryd.prog 56 #[.pointer (some ⟨p, 0, none⟩), x] w fun e w' => e = .returned (.tuple #[]) ∧ Laid w p v (bs ++ B) 0 w' := by
  go_enter Tryd.func56, Tryd.ntmps56
  go_wp2_with (go_at_call 94; refine (layAll96 _ _ _ bs h x B hx (by omega)).mono ?_; rintro e w' ⟨rfl, k1⟩)
  go_end0
  exact ⟨rfl, k1⟩

set_option maxRecDepth 100000 in
set_option maxHeartbeats 1000000 in
theorem wtext_made (w : World) (p : Nat) (v : Value) (bs : List UInt8) (h : Wr w p v bs 0) (x : ByteArray) (hle : bs.length + x.size + 10 ≤ 140737488355328) :
    Calls Tryd.prog 62 #[.pointer (some ⟨p, 0, none⟩), .string x] w fun e w' => e = .returned (.tuple #[]) ∧ Laid w p v (bs ++ (varE x.size ++ x.data.toList)) 0 w' := by
  go_enter Tryd.func62, Tryd.ntmps62
  go_wp2_with (go_at_call 95; refine (layCounted98 _ _ _ bs h x trivial hle).mono ?_; rintro e w' ⟨rfl, k1⟩)
  go_end0
  exact ⟨rfl, k1⟩

theorem Wr.setErr {w : World} {p : Nat} {v : Value} {bs : List UInt8} {e : Int} (h : Wr w p v bs e) (e' : Int) : Wr (w.setCell ⟨p, 2, none⟩ (.int .i64 e')) p v bs e' := by
  refine ⟨?_, h.own.turn (S := fun k => k = p) ((Turn.refl (fun k => k = p) w).setCell (p := ⟨p, 2, none⟩) (fun _ => rfl) _) (fun g q => h.ne g q), h.ne⟩
  have := cells_set 2 (.int .i64 e') h.blk
  simpa using this

end Go.Proofs.YtgimecdmleofeaaDoor


