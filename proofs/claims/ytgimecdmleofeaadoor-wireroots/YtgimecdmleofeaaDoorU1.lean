/- PlainVote of the program and of the document. -/
import Derived.Test.YtgimecdmleofeaaDoorU0
namespace Go.Proofs.YtgimecdmleofeaaDoor
open Go.RowKit
set_option linter.unusedVariables false

def zid : List UInt8 := List.replicate 32 0
def hB (h : Int) : Bool := decide (1 ≤ h) && decide (h ≤ 1099511627776)
def rB (r : Int) : Bool := decide (0 ≤ r) && decide (r ≤ 65535)
def tB (t : Int) : Bool := decide (t ≤ 1125899906842624)

theorem zid_lit : (zid.map bv).toArray = #[.int .u8 0, .int .u8 0, .int .u8 0, .int .u8 0, .int .u8 0, .int .u8 0, .int .u8 0, .int .u8 0, .int .u8 0, .int .u8 0, .int .u8 0, .int .u8 0, .int .u8 0, .int .u8 0, .int .u8 0, .int .u8 0, .int .u8 0, .int .u8 0, .int .u8 0, .int .u8 0, .int .u8 0, .int .u8 0, .int .u8 0, .int .u8 0, .int .u8 0, .int .u8 0, .int .u8 0, .int .u8 0, .int .u8 0, .int .u8 0, .int .u8 0, .int .u8 0] := rfl
theorem eqz (w : World) (X : List UInt8) (hx : X.length = 32) : (Op.equalIn 10000 29 (.agg (X.map bv).toArray) (.agg #[.int .u8 0, .int .u8 0, .int .u8 0, .int .u8 0, .int .u8 0, .int .u8 0, .int .u8 0, .int .u8 0, .int .u8 0, .int .u8 0, .int .u8 0, .int .u8 0, .int .u8 0, .int .u8 0, .int .u8 0, .int .u8 0, .int .u8 0, .int .u8 0, .int .u8 0, .int .u8 0, .int .u8 0, .int .u8 0, .int .u8 0, .int .u8 0, .int .u8 0, .int .u8 0, .int .u8 0, .int .u8 0, .int .u8 0, .int .u8 0, .int .u8 0, .int .u8 0])).run Tryd.prog w = .ok (X == zid) w := by
  rw [← zid_lit]
  exact eqIn24 w 9998 X zid hx (by decide)

set_option maxRecDepth 100000 in
theorem none15 (w : World) (X : List UInt8) (hx : X.length = 32) : Calls Tryd.prog 64 #[.agg (X.map bv).toArray] w fun e w' => e = .returned (.bool (X == zid)) ∧ Turn no w w' := by
  have he := fun W => eqz W X hx
  have hs : (X.map bv).toArray.size = 32 := by simpa using hx
  generalize (X.map bv).toArray = A at *
  have hi : (Tryd.prog.info? 29).map (·.size) = some A.size := by rw [hs]; exact size24
  go_enter Tryd.func64, Tryd.ntmps64
  go_wp2_with (refine wpList_load_row rfl 29 _ rfl w.heap.size rfl 29 A _ _ (Row.new w A 29) Tryd.underlying29 rfl hi ?_)
  go_ret
  exact ⟨rfl, (Turn.refl no w).alloc _⟩
theorem height18 (w : World) (h : Int) : Calls Tryd.prog 60 #[.int .u64 h] w fun e w' => e = .returned (.bool (hB h)) ∧ w = w' := by
  by_cases h1 : 1 ≤ h
  · go_enter Tryd.func60, Tryd.ntmps60
    go_wp2_with fail
    go_ret
    exact ⟨by simp [hB, h1], rfl⟩
  · have h2 : h < 1 := by omega
    go_enter Tryd.func60, Tryd.ntmps60
    go_wp2_with fail
    go_ret
    exact ⟨by simp [hB]; omega, rfl⟩
theorem height21 (w : World) (h : Int) : Calls Tryd.prog 75 #[.int .u64 h] w fun e w' => e = .returned (.bool (hB h)) ∧ w = w' := by
  by_cases h1 : 1 ≤ h
  · go_enter Tryd.func75, Tryd.ntmps75
    go_wp2_with fail
    go_ret
    exact ⟨by simp [hB, h1], rfl⟩
  · have h2 : h < 1 := by omega
    go_enter Tryd.func75, Tryd.ntmps75
    go_wp2_with fail
    go_ret
    exact ⟨by simp [hB]; omega, rfl⟩
theorem round19 (w : World) (h : Int) : Calls Tryd.prog 67 #[.int .i64 h] w fun e w' => e = .returned (.bool (rB h)) ∧ w = w' := by
  by_cases h1 : 0 ≤ h
  · go_enter Tryd.func67, Tryd.ntmps67
    go_wp2_with fail
    go_ret
    exact ⟨by simp [rB, h1], rfl⟩
  · have h2 : h < 0 := by omega
    go_enter Tryd.func67, Tryd.ntmps67
    go_wp2_with fail
    go_ret
    exact ⟨by simp [rB]; omega, rfl⟩
theorem round22 (w : World) (h : Int) : Calls Tryd.prog 79 #[.int .i64 h] w fun e w' => e = .returned (.bool (rB h)) ∧ w = w' := by
  by_cases h1 : 0 ≤ h
  · go_enter Tryd.func79, Tryd.ntmps79
    go_wp2_with fail
    go_ret
    exact ⟨by simp [rB, h1], rfl⟩
  · have h2 : h < 0 := by omega
    go_enter Tryd.func79, Tryd.ntmps79
    go_wp2_with fail
    go_ret
    exact ⟨by simp [rB]; omega, rfl⟩
theorem time16 (w : World) (h : Int) : Calls Tryd.prog 61 #[.int .u64 h] w fun e w' => e = .returned (.bool (tB h)) ∧ w = w' := by
  go_enter Tryd.func61, Tryd.ntmps61
  go_wp2_with fail
  go_ret
  exact ⟨rfl, rfl⟩
theorem time23 (w : World) (h : Int) : Calls Tryd.prog 76 #[.int .u64 h] w fun e w' => e = .returned (.bool (tB h)) ∧ w = w' := by
  go_enter Tryd.func76, Tryd.ntmps76
  go_wp2_with fail
  go_ret
  exact ⟨rfl, rfl⟩
/-- What fieldUnless answers. -/
def fieldE (b : Bool) : Int := if b then 0 else 41
theorem unless17 (w : World) (b : Bool) : Calls Tryd.prog 54 #[.bool b] w fun e w' => e = .returned (.int .i64 (fieldE b)) ∧ w = w' := by
  cases b
  · go_enter Tryd.func54, Tryd.ntmps54
    go_wp2_with fail
    go_ret
    exact ⟨rfl, rfl⟩
  · go_enter Tryd.func54, Tryd.ntmps54
    go_wp2_with fail
    go_ret
    exact ⟨rfl, rfl⟩
/-- What PlainVote answers. -/
def plainE (v : Vt) : Int :=
  if v.k = 1 then fieldE (hB v.h && rB v.r && (tB v.t && v.t == 0) && v.f != 0)
  else if v.k = 2 then fieldE (hB v.h && rB v.r && (tB v.t && (!(v.id == zid) || v.t == 0)) && v.f != 0)
  else 40

theorem plainE_1 {v : Vt} (hk : v.k = 1) : plainE v = fieldE (hB v.h && rB v.r && (tB v.t && v.t == 0) && v.f != 0) := by simp only [plainE, hk, if_true]
theorem plainE_2 {v : Vt} (hk : v.k = 2) : plainE v = fieldE (hB v.h && rB v.r && (tB v.t && (!(v.id == zid) || v.t == 0)) && v.f != 0) := by
  unfold plainE
  rw [if_neg (by omega), if_pos hk]
theorem plainE_0 {v : Vt} (h1 : ¬ v.k = 1) (h2 : ¬ v.k = 2) : plainE v = 40 := by
  unfold plainE
  rw [if_neg h1, if_neg h2]
theorem cut3 {p : Prop} (a b : Bool) (h1 : a = false → p) (h2 : a = true → b = false → p) (h3 : a = true → b = true → p) : p := by
  cases a
  · exact h1 rfl
  · cases b
    · exact h2 rfl rfl
    · exact h3 rfl rfl
theorem cut4 {p : Prop} (a b c : Bool) (h1 : a = false → p) (h2 : a = true → b = false → p) (h3 : a = true → b = true → c = false → p) (h4 : a = true → b = true → c = true → p) : p := by
  cases a
  · exact h1 rfl
  · cases b
    · exact h2 rfl rfl
    · cases c
      · exact h3 rfl rfl rfl
      · exact h4 rfl rfl rfl

set_option maxRecDepth 100000 in
set_option maxHeartbeats 4000000 in
theorem plain9_0 (w : World) (v : Vt) (ho : v.ok) (h1 : ¬ v.k = 1) (h2 : ¬ v.k = 2) : Calls Tryd.prog 104 #[.agg v.cs.toArray] w fun e w' => e = .returned (.int .i64 (plainE v)) ∧ Turn no w w' := by
  rw [plainE_0 h1 h2]
  have g1 : (v.k != 1) = true := by simpa using h1
  have g2 : (v.k != 2) = true := by simpa using h2
  obtain ⟨c0, _, _, _, _, _⟩ := (Row.new w v.cs.toArray 78).vt ho
  generalize v.cs.toArray = C at *
  go_enter Tryd.func104, Tryd.ntmps104
  go_wp2_with fail
  go_ret
  exact ⟨rfl, (Turn.refl no w).alloc _⟩
set_option maxRecDepth 100000 in
set_option maxHeartbeats 4000000 in
theorem plain9_1 (w : World) (v : Vt) (ho : v.ok) (h1 : v.k = 1) : Calls Tryd.prog 104 #[.agg v.cs.toArray] w fun e w' => e = .returned (.int .i64 (plainE v)) ∧ Turn no w w' := by
  rw [plainE_1 h1]
  obtain ⟨c0, c1, c2, c35, c36, cid⟩ := (Row.new w v.cs.toArray 78).vt ho
  generalize v.cs.toArray = C at *
  rw [h1] at c0
  clear h1 cid
  generalize v.h = vh at *
  generalize v.r = vr at *
  generalize v.t = vt at *
  generalize v.f = vf at *
  clear ho
  refine cut3 (tB vt) (vt == 0) ?_ ?_ ?_ <;> refine cut3 (hB vh) (rB vr) ?_ ?_ ?_ <;> intros
  all_goals (
    go_enter Tryd.func104, Tryd.ntmps104
    go_wp2_with (first | (go_at_call 61; refine (time16 _ _).mono ?_; rintro e w' ⟨rfl, rfl⟩) | (go_at_call 60; refine (height18 _ _).mono ?_; rintro e w' ⟨rfl, rfl⟩) | (go_at_call 67; refine (round19 _ _).mono ?_; rintro e w' ⟨rfl, rfl⟩) | (go_at_call 54; refine (unless17 _ _).mono ?_; rintro e w' ⟨rfl, rfl⟩))
    go_ret
    exact ⟨by simp [*], (Turn.refl no w).alloc _⟩)
set_option maxRecDepth 100000 in
set_option maxHeartbeats 4000000 in
theorem plain9_2 (w : World) (v : Vt) (ho : v.ok) (h1 : v.k = 2) : Calls Tryd.prog 104 #[.agg v.cs.toArray] w fun e w' => e = .returned (.int .i64 (plainE v)) ∧ Turn no w w' := by
  rw [plainE_2 h1]
  obtain ⟨c0, c1, c2, c35, c36, cid⟩ := (Row.new w v.cs.toArray 78).vt ho
  have hi : (Tryd.prog.info? 29).map (·.size) = some (v.id.map bv).length := by rw [List.length_map, ho.1]; exact size24
  have hn := none15 (w.alloc (.cells v.cs.toArray 78)) v.id ho.1
  have K : ∀ w', Turn no (w.alloc (.cells v.cs.toArray 78)) w' → w'.cell? ⟨w.heap.size, 1, none⟩ = some (.int .u64 v.h) ∧ w'.cell? ⟨w.heap.size, 2, none⟩ = some (.int .i64 v.r) ∧ w'.cell? ⟨w.heap.size, 35, none⟩ = some (.int .u64 v.t) ∧ w'.cell? ⟨w.heap.size, 36, none⟩ = some (.int .u64 v.f) ∧ Turn no w w' := fun w' t =>
    ⟨t.keep c1 (fun q => q), t.keep c2 (fun q => q), t.keep c35 (fun q => q), t.keep c36 (fun q => q), ((Turn.refl no w).alloc _).then_no t⟩
  have HK := shutX K
  generalize v.cs.toArray = C at *
  rw [h1] at c0
  clear h1 K c1 c2 c35 c36
  generalize v.id.map bv = D at *
  generalize (v.id == zid) = B at *
  generalize v.h = vh at *
  generalize v.r = vr at *
  generalize v.t = vt at *
  generalize v.f = vf at *
  clear ho
  go_enter Tryd.func104, Tryd.ntmps104
  go_wp2_with (refine wpList_load_midG (by rfl) 29 _ rfl w.heap.size 3 rfl D _ cid Tryd.underlying29 rfl hi ?_)
  refine hn.mono ?_
  rintro e w1 ⟨rfl, t1⟩
  obtain ⟨c1, c2, c35, c36, t2⟩ := HK.out w1 t1
  have HT := shutX t2
  clear hn HK c0 t1 t2 cid hi
  refine cut4 (tB vt) B (vt == 0) ?_ ?_ ?_ ?_ <;> refine cut3 (hB vh) (rB vr) ?_ ?_ ?_ <;> intros
  all_goals (
    go_wp2_with (first | (go_at_call 61; refine (time16 _ _).mono ?_; rintro e w' ⟨rfl, rfl⟩) | (go_at_call 60; refine (height18 _ _).mono ?_; rintro e w' ⟨rfl, rfl⟩) | (go_at_call 67; refine (round19 _ _).mono ?_; rintro e w' ⟨rfl, rfl⟩) | (go_at_call 54; refine (unless17 _ _).mono ?_; rintro e w' ⟨rfl, rfl⟩))
    go_ret
    exact ⟨by simp [*], HT.out⟩)
theorem plain9 (w : World) (v : Vt) (ho : v.ok) : Calls Tryd.prog 104 #[.agg v.cs.toArray] w fun e w' => e = .returned (.int .i64 (plainE v)) ∧ Turn no w w' := by
  by_cases h1 : v.k = 1
  · exact plain9_1 w v ho h1
  · by_cases h2 : v.k = 2
    · exact plain9_2 w v ho h2
    · exact plain9_0 w v ho h1 h2
end Go.Proofs.YtgimecdmleofeaaDoor

