/- WireSaysAll: what is handed in, read; the row. -/
import Derived.Test.YtpfjllkmaogafaaWa
import Derived.ProofKit
import Derived.OpenShut
import Derived.ShutString
import Derived.ChangeOld
import Derived.SizedLaws
import Derived.Lib.SmallJoins
import Derived.Carry
namespace Go.Proofs.Ytpfjllkmaogafaa
open Go.ChangeShapes Go.WideShapes Go.ChangeAt Go.RowKit Go.Joins
set_option linter.unusedVariables false

theorem own : ownKnob Try.prog.godebug = none := by kernel_rfl
theorem laidOut : laidOutB Try.prog = true := by kernel_rfl
theorem cells3 : Try.prog.cellsOf 3 = 1 := by kernel_rfl
theorem cells9 : Try.prog.cellsOf 9 = 1 := by kernel_rfl
theorem cells22 : Try.prog.cellsOf 22 = 1 := by kernel_rfl
theorem cells23 : Try.prog.cellsOf 23 = 1 := by kernel_rfl
theorem cells25 : Try.prog.cellsOf 25 = 16 := by kernel_rfl
theorem cells27 : Try.prog.cellsOf 27 = 22 := by kernel_rfl
theorem cells29 : Try.prog.cellsOf 29 = 32 := by kernel_rfl
theorem cells31 : Try.prog.cellsOf 31 = 53 := by kernel_rfl
theorem cells33 : Try.prog.cellsOf 33 = 52 := by kernel_rfl
theorem cells35 : Try.prog.cellsOf 35 = 128 := by kernel_rfl

section
variable {H : Type} {enc : TypeId × Value → H} {w : World} {base : Nat} {spare : Nat → Bool} {held : Bool}
def byteOfV : Value → UInt8
  | .int _ k => UInt8.ofNat k.toNat
  | _ => 0
theorem open_arr {n t m : Nat} {L : List Value} {y : DataW H × List MemPlace} (hu : Try.prog.underlying t = some (.array m 5)) (hc : Try.prog.cellsOf t = m) (h : DataW.trod enc Try.prog w base spare held n t L = some y) : ∃ X : List UInt8, X.length = m ∧ L = X.map bv := by
  obtain ⟨xs, m1, _, _, hlen, hn, hel⟩ := DataW.trod_array hu h
  rw [hc] at hlen
  refine ⟨L.map byteOfV, by simpa using hlen, ?_⟩
  apply List.ext_getElem?
  intro j
  by_cases hj : j < m
  · have h0 := hel j hj
    obtain ⟨x, hxj⟩ : ∃ x, xs[j]? = some x := ⟨xs[j]'(by omega), List.getElem?_eq_getElem (by omega)⟩
    rw [hxj, cells5, Nat.mul_one] at h0
    obtain ⟨k, e1, _, wk⟩ := DataW.trod_int Try.underlying5 h0
    have hc : L[j]? = some (.int .u8 k) := by
      have := congrArg (·[0]?) e1
      simpa [List.getElem?_take, List.getElem?_drop] using this
    have hb := bounds_u8 wk
    rw [hc]
    simp [hc, byteOfV, bv]
    omega
  · rw [List.getElem?_eq_none (by omega), List.getElem?_eq_none (by simp; omega)]
theorem cut1 {L : List Value} {o : Nat} {v : Value} (h : (L.drop o).take 1 = [v]) : L[o]? = some v := by
  have := congrArg (·[0]?) h
  simpa [List.getElem?_take, List.getElem?_drop] using this
theorem open_tx {n : Nat} {L : List Value} {y : DataW H × List MemPlace} (h : DataW.trod enc Try.prog w base spare held n 27 L = some y) : ∃ v : Tx, v.ok ∧ L = v.cs := by
  obtain ⟨xs, m, _, _, hlen, hn, hel⟩ := DataW.trod_struct Try.underlying27 h
  rw [cells27] at hlen
  have hx : ∀ i, i < 7 → ∃ x, xs[i]? = some x := fun i hi => ⟨xs[i]'(by rw [hn]; exact hi), List.getElem?_eq_getElem _⟩
  obtain ⟨x0, e0⟩ := hx 0 (by omega)
  obtain ⟨x1, e1⟩ := hx 1 (by omega)
  obtain ⟨x2, e2⟩ := hx 2 (by omega)
  obtain ⟨x3, e3⟩ := hx 3 (by omega)
  obtain ⟨x4, e4⟩ := hx 4 (by omega)
  obtain ⟨x5, e5⟩ := hx 5 (by omega)
  obtain ⟨x6, e6⟩ := hx 6 (by omega)
  have h0 : DataW.trod enc Try.prog w base spare held m 3 ((L.drop 0).take (Try.prog.cellsOf 3)) = some x0 := (hel 0 _ rfl).trans e0
  rw [cells3] at h0
  have h1 : DataW.trod enc Try.prog w base spare held m 23 ((L.drop 1).take (Try.prog.cellsOf 23)) = some x1 := (hel 1 _ rfl).trans e1
  rw [cells23] at h1
  have h2 : DataW.trod enc Try.prog w base spare held m 23 ((L.drop 2).take (Try.prog.cellsOf 23)) = some x2 := (hel 2 _ rfl).trans e2
  rw [cells23] at h2
  have h3 : DataW.trod enc Try.prog w base spare held m 22 ((L.drop 3).take (Try.prog.cellsOf 22)) = some x3 := (hel 3 _ rfl).trans e3
  rw [cells22] at h3
  have h4 : DataW.trod enc Try.prog w base spare held m 22 ((L.drop 4).take (Try.prog.cellsOf 22)) = some x4 := (hel 4 _ rfl).trans e4
  rw [cells22] at h4
  have h5 : DataW.trod enc Try.prog w base spare held m 22 ((L.drop 5).take (Try.prog.cellsOf 22)) = some x5 := (hel 5 _ rfl).trans e5
  rw [cells22] at h5
  have h6 : DataW.trod enc Try.prog w base spare held m 25 ((L.drop 6).take (Try.prog.cellsOf 25)) = some x6 := (hel 6 _ rfl).trans e6
  rw [cells25] at h6
  obtain ⟨k, c0, _, w0⟩ := DataW.trod_int Try.underlying3 h0
  obtain ⟨fr', c1, _, w1⟩ := DataW.trod_int Try.underlying23 h1
  have q1 := bounds_u64 w1
  obtain ⟨fr, rfl⟩ : ∃ k : Nat, fr' = (k : Int) := ⟨fr'.toNat, by omega⟩
  obtain ⟨tt', c2, _, w2⟩ := DataW.trod_int Try.underlying23 h2
  have q2 := bounds_u64 w2
  obtain ⟨tt, rfl⟩ : ∃ k : Nat, tt' = (k : Int) := ⟨tt'.toNat, by omega⟩
  obtain ⟨am', c3, _, w3⟩ := DataW.trod_int Try.underlying22 h3
  have q3 := bounds_u64 w3
  obtain ⟨am, rfl⟩ : ∃ k : Nat, am' = (k : Int) := ⟨am'.toNat, by omega⟩
  obtain ⟨fe', c4, _, w4⟩ := DataW.trod_int Try.underlying22 h4
  have q4 := bounds_u64 w4
  obtain ⟨fe, rfl⟩ : ∃ k : Nat, fe' = (k : Int) := ⟨fe'.toNat, by omega⟩
  obtain ⟨nn', c5, _, w5⟩ := DataW.trod_int Try.underlying22 h5
  have q5 := bounds_u64 w5
  obtain ⟨nn, rfl⟩ : ∃ k : Nat, nn' = (k : Int) := ⟨nn'.toNat, by omega⟩
  obtain ⟨Y, lY, c6⟩ := open_arr Try.underlying25 cells25 h6
  refine ⟨⟨k, fr, tt, am, fe, nn, Y⟩, ⟨lY, by show fr < _; omega, by show tt < _; omega, by show am < _; omega, by show fe < _; omega, by show nn < _; omega⟩, ?_⟩
  have d : ∀ o, L.drop o = (L.drop o).take 1 ++ L.drop (o + 1) := fun o => by
    rw [← List.drop_drop]
    exact (List.take_append_drop 1 (L.drop o)).symm
  have s6 : L.drop 6 = Y.map bv := by
    rw [← c6]
    exact (List.take_of_length_le (by simp; omega)).symm
  have s0 : L = (L.drop 0).take 1 ++ ((L.drop 1).take 1 ++ ((L.drop 2).take 1 ++ ((L.drop 3).take 1 ++ ((L.drop 4).take 1 ++ ((L.drop 5).take 1 ++ L.drop 6))))) := by
    rw [← d 5, ← d 4, ← d 3, ← d 2, ← d 1, ← d 0]
    rfl
  rw [s0, c0, c1, c2, c3, c4, c5, s6]
  simp [Tx.cs]
theorem open_vo {n : Nat} {L : List Value} {y : DataW H × List MemPlace} (h : DataW.trod enc Try.prog w base spare held n 31 L = some y) : ∃ v : Vt, v.fits ∧ L = v.cs := by
  obtain ⟨xs, m, _, _, hlen, hn, hel⟩ := DataW.trod_struct Try.underlying31 h
  rw [cells31] at hlen
  have hx : ∀ i, i < 7 → ∃ x, xs[i]? = some x := fun i hi => ⟨xs[i]'(by rw [hn]; exact hi), List.getElem?_eq_getElem _⟩
  obtain ⟨x0, e0⟩ := hx 0 (by omega)
  obtain ⟨x1, e1⟩ := hx 1 (by omega)
  obtain ⟨x2, e2⟩ := hx 2 (by omega)
  obtain ⟨x3, e3⟩ := hx 3 (by omega)
  obtain ⟨x4, e4⟩ := hx 4 (by omega)
  obtain ⟨x5, e5⟩ := hx 5 (by omega)
  obtain ⟨x6, e6⟩ := hx 6 (by omega)
  have h0 : DataW.trod enc Try.prog w base spare held m 3 ((L.drop 0).take (Try.prog.cellsOf 3)) = some x0 := (hel 0 _ rfl).trans e0
  rw [cells3] at h0
  have h1 : DataW.trod enc Try.prog w base spare held m 22 ((L.drop 1).take (Try.prog.cellsOf 22)) = some x1 := (hel 1 _ rfl).trans e1
  rw [cells22] at h1
  have h2 : DataW.trod enc Try.prog w base spare held m 3 ((L.drop 2).take (Try.prog.cellsOf 3)) = some x2 := (hel 2 _ rfl).trans e2
  rw [cells3] at h2
  have h3 : DataW.trod enc Try.prog w base spare held m 29 ((L.drop 3).take (Try.prog.cellsOf 29)) = some x3 := (hel 3 _ rfl).trans e3
  rw [cells29] at h3
  have h4 : DataW.trod enc Try.prog w base spare held m 22 ((L.drop 35).take (Try.prog.cellsOf 22)) = some x4 := (hel 4 _ rfl).trans e4
  rw [cells22] at h4
  have h5 : DataW.trod enc Try.prog w base spare held m 23 ((L.drop 36).take (Try.prog.cellsOf 23)) = some x5 := (hel 5 _ rfl).trans e5
  rw [cells23] at h5
  have h6 : DataW.trod enc Try.prog w base spare held m 25 ((L.drop 37).take (Try.prog.cellsOf 25)) = some x6 := (hel 6 _ rfl).trans e6
  rw [cells25] at h6
  obtain ⟨k, c0, _, w0⟩ := DataW.trod_int Try.underlying3 h0
  obtain ⟨hh, c1, _, w1⟩ := DataW.trod_int Try.underlying22 h1
  have q1 := bounds_u64 w1
  obtain ⟨r, c2, _, w2⟩ := DataW.trod_int Try.underlying3 h2
  obtain ⟨X, lX, c3⟩ := open_arr Try.underlying29 cells29 h3
  obtain ⟨t, c4, _, w4⟩ := DataW.trod_int Try.underlying22 h4
  have q4 := bounds_u64 w4
  obtain ⟨f, c5, _, w5⟩ := DataW.trod_int Try.underlying23 h5
  have q5 := bounds_u64 w5
  obtain ⟨Y, lY, c6⟩ := open_arr Try.underlying25 cells25 h6
  refine ⟨⟨k, hh, r, X, t, f, Y⟩, ⟨⟨lX, lY⟩, ⟨by show 0 ≤ hh; omega, by show hh < _; omega⟩, ⟨by show 0 ≤ t; omega, by show t < _; omega⟩, ⟨by show 0 ≤ f; omega, by show f < _; omega⟩⟩, ?_⟩
  have d : ∀ o, L.drop o = (L.drop o).take 1 ++ L.drop (o + 1) := fun o => by
    rw [← List.drop_drop]
    exact (List.take_append_drop 1 (L.drop o)).symm
  have s3 : L.drop 3 = X.map bv ++ L.drop 35 := by
    rw [← c3, show (35 : Nat) = 3 + 32 from rfl, ← List.drop_drop]
    exact (List.take_append_drop 32 (L.drop 3)).symm
  have s37 : L.drop 37 = Y.map bv := by
    rw [← c6]
    exact (List.take_of_length_le (by simp; omega)).symm
  have s0 : L = (L.drop 0).take 1 ++ ((L.drop 1).take 1 ++ ((L.drop 2).take 1 ++ L.drop 3)) := by
    rw [← d 2, ← d 1, ← d 0]
    rfl
  have s35 : L.drop 35 = (L.drop 35).take 1 ++ ((L.drop 36).take 1 ++ L.drop 37) := by
    rw [← d 36, ← d 35]
  rw [s0, c0, c1, c2, s3, s35, c4, c5, s37]
  simp [Vt.cs]
theorem open_po {n : Nat} {L : List Value} {y : DataW H × List MemPlace} (h : DataW.trod enc Try.prog w base spare held n 33 L = some y) : ∃ v : Po, v.ok ∧ L = v.cs := by
  obtain ⟨xs, m, _, _, hlen, hn, hel⟩ := DataW.trod_struct Try.underlying33 h
  rw [cells33] at hlen
  have hx : ∀ i, i < 6 → ∃ x, xs[i]? = some x := fun i hi => ⟨xs[i]'(by rw [hn]; exact hi), List.getElem?_eq_getElem _⟩
  obtain ⟨x0, e0⟩ := hx 0 (by omega)
  obtain ⟨x1, e1⟩ := hx 1 (by omega)
  obtain ⟨x2, e2⟩ := hx 2 (by omega)
  obtain ⟨x3, e3⟩ := hx 3 (by omega)
  obtain ⟨x4, e4⟩ := hx 4 (by omega)
  obtain ⟨x5, e5⟩ := hx 5 (by omega)
  have h0 : DataW.trod enc Try.prog w base spare held m 22 ((L.drop 0).take (Try.prog.cellsOf 22)) = some x0 := (hel 0 _ rfl).trans e0
  rw [cells22] at h0
  have h1 : DataW.trod enc Try.prog w base spare held m 3 ((L.drop 1).take (Try.prog.cellsOf 3)) = some x1 := (hel 1 _ rfl).trans e1
  rw [cells3] at h1
  have h2 : DataW.trod enc Try.prog w base spare held m 3 ((L.drop 2).take (Try.prog.cellsOf 3)) = some x2 := (hel 2 _ rfl).trans e2
  rw [cells3] at h2
  have h3 : DataW.trod enc Try.prog w base spare held m 29 ((L.drop 3).take (Try.prog.cellsOf 29)) = some x3 := (hel 3 _ rfl).trans e3
  rw [cells29] at h3
  have h4 : DataW.trod enc Try.prog w base spare held m 23 ((L.drop 35).take (Try.prog.cellsOf 23)) = some x4 := (hel 4 _ rfl).trans e4
  rw [cells23] at h4
  have h5 : DataW.trod enc Try.prog w base spare held m 25 ((L.drop 36).take (Try.prog.cellsOf 25)) = some x5 := (hel 5 _ rfl).trans e5
  rw [cells25] at h5
  obtain ⟨hh', c0, _, w0⟩ := DataW.trod_int Try.underlying22 h0
  have q0 := bounds_u64 w0
  obtain ⟨hh, rfl⟩ : ∃ k : Nat, hh' = (k : Int) := ⟨hh'.toNat, by omega⟩
  obtain ⟨r, c1, _, w1⟩ := DataW.trod_int Try.underlying3 h1
  obtain ⟨vr, c2, _, w2⟩ := DataW.trod_int Try.underlying3 h2
  obtain ⟨X, lX, c3⟩ := open_arr Try.underlying29 cells29 h3
  obtain ⟨f', c4, _, w4⟩ := DataW.trod_int Try.underlying23 h4
  have q4 := bounds_u64 w4
  obtain ⟨f, rfl⟩ : ∃ k : Nat, f' = (k : Int) := ⟨f'.toNat, by omega⟩
  obtain ⟨Y, lY, c5⟩ := open_arr Try.underlying25 cells25 h5
  refine ⟨⟨hh, r, vr, X, f, Y⟩, ⟨lX, lY, by show hh < _; omega, by show f < _; omega⟩, ?_⟩
  have d : ∀ o, L.drop o = (L.drop o).take 1 ++ L.drop (o + 1) := fun o => by
    rw [← List.drop_drop]
    exact (List.take_append_drop 1 (L.drop o)).symm
  have s3 : L.drop 3 = X.map bv ++ L.drop 35 := by
    rw [← c3, show (35 : Nat) = 3 + 32 from rfl, ← List.drop_drop]
    exact (List.take_append_drop 32 (L.drop 3)).symm
  have s36 : L.drop 36 = Y.map bv := by
    rw [← c5]
    exact (List.take_of_length_le (by simp; omega)).symm
  have s0 : L = (L.drop 0).take 1 ++ ((L.drop 1).take 1 ++ ((L.drop 2).take 1 ++ L.drop 3)) := by
    rw [← d 2, ← d 1, ← d 0]
    rfl
  rw [s0, c0, c1, c2, s3, d 35, c4, s36]
  simp [Po.cs]
theorem open_nm {n : Nat} {L : List Value} {y : DataW H × List MemPlace} (h : DataW.trod enc Try.prog w base spare held n 35 L = some y) : ∃ ch x v z, x.ok ∧ v.fits ∧ z.ok ∧ L = nmD ch x v z := by
  obtain ⟨xs, m, _, _, hlen, hn, hel⟩ := DataW.trod_struct Try.underlying35 h
  rw [cells35] at hlen
  have hx : ∀ i, i < 4 → ∃ x, xs[i]? = some x := fun i hi => ⟨xs[i]'(by rw [hn]; exact hi), List.getElem?_eq_getElem _⟩
  obtain ⟨x0, e0⟩ := hx 0 (by omega)
  obtain ⟨x1, e1⟩ := hx 1 (by omega)
  obtain ⟨x2, e2⟩ := hx 2 (by omega)
  obtain ⟨x3, e3⟩ := hx 3 (by omega)
  have h0 : DataW.trod enc Try.prog w base spare held m 9 ((L.drop 0).take (Try.prog.cellsOf 9)) = some x0 := (hel 0 _ rfl).trans e0
  have h1 : DataW.trod enc Try.prog w base spare held m 27 ((L.drop 1).take (Try.prog.cellsOf 27)) = some x1 := (hel 1 _ rfl).trans e1
  have h2 : DataW.trod enc Try.prog w base spare held m 31 ((L.drop 23).take (Try.prog.cellsOf 31)) = some x2 := (hel 2 _ rfl).trans e2
  have h3 : DataW.trod enc Try.prog w base spare held m 33 ((L.drop 76).take (Try.prog.cellsOf 33)) = some x3 := (hel 3 _ rfl).trans e3
  rw [cells9] at h0
  rw [cells27] at h1
  rw [cells31] at h2
  rw [cells33] at h3
  obtain ⟨ch, c0, _⟩ := DataW.trod_string Try.underlying9 h0
  obtain ⟨x, hxo, c1⟩ := open_tx h1
  obtain ⟨v, hvo, c2⟩ := open_vo h2
  obtain ⟨z, hzo, c3⟩ := open_po h3
  refine ⟨ch, x, v, z, hxo, hvo, hzo, ?_⟩
  have s76 : L.drop 76 = z.cs := by
    rw [← c3]
    exact (List.take_of_length_le (by simp; omega)).symm
  have s23 : L.drop 23 = v.cs ++ L.drop 76 := by
    rw [← c2, show (76 : Nat) = 23 + 53 from rfl, ← List.drop_drop]
    exact (List.take_append_drop 53 (L.drop 23)).symm
  have s1 : L.drop 1 = x.cs ++ L.drop 23 := by
    rw [← c1, show (23 : Nat) = 1 + 22 from rfl, ← List.drop_drop]
    exact (List.take_append_drop 22 (L.drop 1)).symm
  have s0 : L = (L.drop 0).take 1 ++ L.drop 1 := by
    conv => lhs; rw [← List.take_append_drop 1 L]
    rfl
  rw [s0, c0, s1, s23, s76]
  rfl
end
theorem saysAll6 (w : World) (j k : Int) (ch ch' : ByteArray) (x x' : Tx) (y y' : Vt) (z z' : Po) (hx : x.ok) (hx' : x'.ok) (hy : y.fits) (hy' : y'.fits) (hz : z.ok) (hz' : z'.ok) :
    Calls Try.prog 6 #[.int .i64 j, .agg (nmD ch x y z).toArray, .int .i64 k, .agg (nmD ch' x' y' z').toArray] w fun e w' => e = .returned (.bool true) ∧ Turn no w w' := by
  by_cases he : sayE j ch x y z = 0
  · by_cases hf : sayE k ch' x' y' z' = 0
    · have hr : j % 3 = 0 ∨ j % 3 = 1 ∨ j % 3 = 2 := by omega
      rcases hr with hm | hm | hm
      · exact saysAll6_0 w j k ch ch' x x' y y' z z' hx hx' hy hy' hz hz' hm he hf
      · exact saysAll6_1 w j k ch ch' x x' y y' z z' hx hx' hy hy' hz hz' hm he hf
      · exact saysAll6_2 w j k ch ch' x x' y y' z z' hx hx' hy hy' hz hz' hm he hf
    · exact saysAll6_e w j k ch ch' x x' y y' z z' hx hx' hy hy' hz hz' (Or.inr hf)
  · exact saysAll6_e w j k ch ch' x x' y y' z z' hx hx' hy hy' hz hz' (Or.inl he)
set_option maxRecDepth 100000 in
set_option maxHeartbeats 4000000 in
theorem saysAll_lifted (os : Os) (started : os.Started) (H : Type) (enc : TypeId × Value → H) :
    ReturnsInHanded {} Try.checked os 6 .any (Rows.wireSaysAllSpec.pre6 enc Try.prog Try.f6 Rows.wireSaysAllRow.domain false) (Rows.wireSaysAllSpec.post enc Try.prog Try.f6 false true false false) := by
  refine returnsInHanded_of_change_sized (C := Try.checked) own started (by kernel_rfl) Try.func6
    (ChangeSpec.witness6 (enc := enc) (C := Try.checked) false ⟨#[], #[.int .i64 0, .agg #[.string ⟨#[]⟩, .int .i64 0, .int .u64 0, .int .u64 0, .int .u64 0, .int .u64 0, .int .u64 0, .int .u8 0, .int .u8 0, .int .u8 0, .int .u8 0, .int .u8 0, .int .u8 0, .int .u8 0, .int .u8 0, .int .u8 0, .int .u8 0, .int .u8 0, .int .u8 0, .int .u8 0, .int .u8 0, .int .u8 0, .int .u8 0, .int .i64 0, .int .u64 0, .int .i64 0, .int .u8 0, .int .u8 0, .int .u8 0, .int .u8 0, .int .u8 0, .int .u8 0, .int .u8 0, .int .u8 0, .int .u8 0, .int .u8 0, .int .u8 0, .int .u8 0, .int .u8 0, .int .u8 0, .int .u8 0, .int .u8 0, .int .u8 0, .int .u8 0, .int .u8 0, .int .u8 0, .int .u8 0, .int .u8 0, .int .u8 0, .int .u8 0, .int .u8 0, .int .u8 0, .int .u8 0, .int .u8 0, .int .u8 0, .int .u8 0, .int .u8 0, .int .u8 0, .int .u64 0, .int .u64 0, .int .u8 0, .int .u8 0, .int .u8 0, .int .u8 0, .int .u8 0, .int .u8 0, .int .u8 0, .int .u8 0, .int .u8 0, .int .u8 0, .int .u8 0, .int .u8 0, .int .u8 0, .int .u8 0, .int .u8 0, .int .u8 0, .int .u64 0, .int .i64 0, .int .i64 0, .int .u8 0, .int .u8 0, .int .u8 0, .int .u8 0, .int .u8 0, .int .u8 0, .int .u8 0, .int .u8 0, .int .u8 0, .int .u8 0, .int .u8 0, .int .u8 0, .int .u8 0, .int .u8 0, .int .u8 0, .int .u8 0, .int .u8 0, .int .u8 0, .int .u8 0, .int .u8 0, .int .u8 0, .int .u8 0, .int .u8 0, .int .u8 0, .int .u8 0, .int .u8 0, .int .u8 0, .int .u8 0, .int .u8 0, .int .u8 0, .int .u8 0, .int .u8 0, .int .u64 0, .int .u8 0, .int .u8 0, .int .u8 0, .int .u8 0, .int .u8 0, .int .u8 0, .int .u8 0, .int .u8 0, .int .u8 0, .int .u8 0, .int .u8 0, .int .u8 0, .int .u8 0, .int .u8 0, .int .u8 0, .int .u8 0], .int .i64 0, .agg #[.string ⟨#[]⟩, .int .i64 0, .int .u64 0, .int .u64 0, .int .u64 0, .int .u64 0, .int .u64 0, .int .u8 0, .int .u8 0, .int .u8 0, .int .u8 0, .int .u8 0, .int .u8 0, .int .u8 0, .int .u8 0, .int .u8 0, .int .u8 0, .int .u8 0, .int .u8 0, .int .u8 0, .int .u8 0, .int .u8 0, .int .u8 0, .int .i64 0, .int .u64 0, .int .i64 0, .int .u8 0, .int .u8 0, .int .u8 0, .int .u8 0, .int .u8 0, .int .u8 0, .int .u8 0, .int .u8 0, .int .u8 0, .int .u8 0, .int .u8 0, .int .u8 0, .int .u8 0, .int .u8 0, .int .u8 0, .int .u8 0, .int .u8 0, .int .u8 0, .int .u8 0, .int .u8 0, .int .u8 0, .int .u8 0, .int .u8 0, .int .u8 0, .int .u8 0, .int .u8 0, .int .u8 0, .int .u8 0, .int .u8 0, .int .u8 0, .int .u8 0, .int .u8 0, .int .u64 0, .int .u64 0, .int .u8 0, .int .u8 0, .int .u8 0, .int .u8 0, .int .u8 0, .int .u8 0, .int .u8 0, .int .u8 0, .int .u8 0, .int .u8 0, .int .u8 0, .int .u8 0, .int .u8 0, .int .u8 0, .int .u8 0, .int .u8 0, .int .u64 0, .int .i64 0, .int .i64 0, .int .u8 0, .int .u8 0, .int .u8 0, .int .u8 0, .int .u8 0, .int .u8 0, .int .u8 0, .int .u8 0, .int .u8 0, .int .u8 0, .int .u8 0, .int .u8 0, .int .u8 0, .int .u8 0, .int .u8 0, .int .u8 0, .int .u8 0, .int .u8 0, .int .u8 0, .int .u8 0, .int .u8 0, .int .u8 0, .int .u8 0, .int .u8 0, .int .u8 0, .int .u8 0, .int .u8 0, .int .u8 0, .int .u8 0, .int .u8 0, .int .u8 0, .int .u8 0, .int .u64 0, .int .u8 0, .int .u8 0, .int .u8 0, .int .u8 0, .int .u8 0, .int .u8 0, .int .u8 0, .int .u8 0, .int .u8 0, .int .u8 0, .int .u8 0, .int .u8 0, .int .u8 0, .int .u8 0, .int .u8 0, .int .u8 0]], []⟩ 8 (by kernel_rfl) (by kernel_rfl) (by kernel_rfl) (by kernel_rfl)) ?_
  intro W base args ds gs before hval0 hW hcnd hsz _
  have hval : ∀ (j : Nat) t v, Try.f6.params[j]? = some t → args[j]? = some v → Value.okWide Try.prog W .any base t v := hval0
  have hW' := hW
  obtain ⟨p, q, hA0, hV, rfl, hfz, hnd⟩ := hW
  have hA : DataW.TrodAll enc Try.prog W 0 (fun _ => true) true Try.f6.params.toList args.toList ds p := hA0
  rw [Try.params6] at hA hval hsz
  obtain ⟨v0, v1, v2, v3, d0, d1, d2, d3, p0, p1, p2, p3, rfl, rfl, rfl, h0, h1, h2, h3⟩ := trodAll_four hA
  obtain ⟨rfl, rfl⟩ := trodVars_none hV
  have k0 := h0
  have k1 := h1
  have k2 := h2
  have k3 := h3
  have lt0 : ∀ x ∈ p0, x.block < W.heap.size := by obtain ⟨m, hm⟩ := k0; exact DataW.trod_lt m _ _ _ hm
  have lt1 : ∀ x ∈ p1, x.block < W.heap.size := by obtain ⟨m, hm⟩ := k1; exact DataW.trod_lt m _ _ _ hm
  have lt2 : ∀ x ∈ p2, x.block < W.heap.size := by obtain ⟨m, hm⟩ := k2; exact DataW.trod_lt m _ _ _ hm
  have lt3 : ∀ x ∈ p3, x.block < W.heap.size := by obtain ⟨m, hm⟩ := k3; exact DataW.trod_lt m _ _ _ hm
  obtain ⟨cs, rfl, _, _⟩ : ∃ cs, v1 = .agg cs ∧ cs.size = Try.prog.cellsOf 35 ∧ Row.okWide Try.prog W .any base 35 cs := by
    have := hval 1 35 v1 rfl rfl
    simpa [Value.okWide, Try.underlying35] using this
  obtain ⟨cs', rfl, _, _⟩ : ∃ cs, v3 = .agg cs ∧ cs.size = Try.prog.cellsOf 35 ∧ Row.okWide Try.prog W .any base 35 cs := by
    have := hval 3 35 v3 rfl rfl
    simpa [Value.okWide, Try.underlying35] using this
  obtain ⟨m0, t0⟩ := h0
  obtain ⟨m1, t1⟩ := h1
  obtain ⟨m2, t2⟩ := h2
  obtain ⟨m3, t3⟩ := h3
  obtain ⟨j, ej⟩ : ∃ j : Int, v0 = .int .i64 j := okWide_int Try.underlying3 (hval 0 3 v0 rfl rfl)
  obtain ⟨k, ek⟩ : ∃ k : Int, v2 = .int .i64 k := okWide_int Try.underlying3 (hval 2 3 v2 rfl rfl)
  subst ej ek
  obtain ⟨ch, x, v, z, hx, hv, hz, hcs⟩ := open_nm (L := cs.toList) t1
  obtain ⟨ch', x', v', z', hx', hv', hz', hcs'⟩ := open_nm (L := cs'.toList) t3
  have hwalk := saysAll6 W j k ch ch' x x' v v' z z' hx hx' hv hv' hz hz'
  rw [← hcs, ← hcs'] at hwalk
  clear hA0 hval0
  refine hwalk.mono fun e W' ⟨he, tt⟩ => ?_
  subst he
  have bel := tt.below
  exact ⟨_, rfl, _, _, _, [], _, [], hW', trodAll_mk1 (shut_bool Try.underlying4 _), (trodAll_mk4 (Below.trod laidOut (by kernel_rfl) (of_decide_eq_true (by kernel_rfl)) k0 bel lt0) (Below.trod laidOut (by kernel_rfl) (of_decide_eq_true (by kernel_rfl)) k1 bel lt1) (Below.trod laidOut (by kernel_rfl) (of_decide_eq_true (by kernel_rfl)) k2 bel lt2) (Below.trod laidOut (by kernel_rfl) (of_decide_eq_true (by kernel_rfl)) k3 bel lt3)), rfl, bel.frame _, fun h => by cases h⟩

theorem saysAll_holds : Rows.WireSaysAllSaid :=
  OpenClaim.holds_of_wide 6 Try.f6 rfl rfl rfl rfl rfl rfl rfl ⟨rfl, rfl, rfl, rfl, rfl⟩ rfl rfl rfl rfl rfl (by kernel_rfl) Try.func6 (by kernel_rfl)
    (of_decide_eq_true (by kernel_rfl)) (by unfold Func.isWrapper; first | (rw [if_pos (by decide +kernel)]; kernel_rfl) | (rw [if_neg (by decide +kernel)]; exact ⟨rfl, rfl⟩))
    (fun os started H enc _ => saysAll_lifted os started H enc)
#print axioms saysAll_holds
end Go.Proofs.Ytpfjllkmaogafaa
