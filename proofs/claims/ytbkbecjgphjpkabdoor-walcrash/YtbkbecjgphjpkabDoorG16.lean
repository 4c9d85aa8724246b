/- A list of lives, wherever it lies. -/
import Derived.Test.YtbkbecjgphjpkabDoorG15
namespace Go.Proofs.YtbkbecjgphjpkabDoor
open Go.RowKit Go.Maps
set_option linter.unusedVariables false

/-- A list of troubles, three cells each. -/
def Trs (w : World) (v : Value) (l : List Tr) : Prop := ∃ a cap, v = .slice a l.length cap ∧ l.length ≤ 9223372036854775807 ∧
  ∀ j t, l[j]? = some t → ∃ g o, a = some ⟨g, o, none⟩ ∧ w.cell? ⟨g, o + j * 3, none⟩ = some (.int .i64 t.when) ∧ w.cell? ⟨g, o + j * 3 + 1, none⟩ = some (.int .i64 t.kind) ∧ w.cell? ⟨g, o + j * 3 + 2, none⟩ = some (.bool t.done)
theorem Trs.turn_no {w w' : World} {v : Value} {l : List Tr} (h : Trs w v l) (t : Turn no w w') : Trs w' v l := by
  obtain ⟨a, cap, e, hl, hc⟩ := h
  refine ⟨a, cap, e, hl, fun j x hx => ?_⟩
  obtain ⟨g, o, e1, c1, c2, c3⟩ := hc j x hx
  exact ⟨g, o, e1, t.keep c1 (fun z => z), t.keep c2 (fun z => z), t.keep c3 (fun z => z)⟩
/-- A life: records, the numbers behind which Sync is called, troubles, what a crash keeps and how it spoils. -/
structure Lif where
  vr : Value
  vy : Value
  va : Value
  rs : List It
  ys : List Int
  arms : List Tr
  keep : Int
  junk : UInt8
/-- A list of lives, five cells each. -/
def Lvs (w : World) (v : Value) (l : List Lif) : Prop := ∃ a cap, v = .slice a l.length cap ∧ l.length ≤ 9223372036854775807 ∧
  ∀ j f, l[j]? = some f → ∃ g o, a = some ⟨g, o, none⟩ ∧ (w.cell? ⟨g, o + j * 5, none⟩ = some f.vr ∧ w.cell? ⟨g, o + j * 5 + 1, none⟩ = some f.vy ∧ w.cell? ⟨g, o + j * 5 + 2, none⟩ = some f.va ∧ w.cell? ⟨g, o + j * 5 + 3, none⟩ = some (.int .i64 f.keep) ∧ w.cell? ⟨g, o + j * 5 + 4, none⟩ = some (.int .u8 f.junk.toNat)) ∧
    Bl w f.vr f.rs ∧ Vs w f.vy (f.ys.map iv) ∧ Trs w f.va f.arms
theorem Lvs.turn_no {w w' : World} {v : Value} {l : List Lif} (h : Lvs w v l) (t : Turn no w w') : Lvs w' v l := by
  obtain ⟨a, cap, e, hl, hc⟩ := h
  refine ⟨a, cap, e, hl, fun j x hx => ?_⟩
  obtain ⟨g, o, e1, ⟨c1, c2, c3, c4, c5⟩, b1, b2, b3⟩ := hc j x hx
  exact ⟨g, o, e1, ⟨t.keep c1 (fun z => z), t.keep c2 (fun z => z), t.keep c3 (fun z => z), t.keep c4 (fun z => z), t.keep c5 (fun z => z)⟩, b1.turn_no t, b2.turn_no t, b3.turn_no t⟩
/-- A list of byte lists, as what is appended. -/
theorem Bl.src {P : Program} {tx e' : TypeId} (hk : P.underlying tx = some (.slice e')) {w : World} {v : Value} {ts : List It} (h : Bl w v ts) : Src P 1 tx v ts.length (ts.map (·.1)) w := by
  obtain ⟨aa, cp, rfl, _, _, hc⟩ := h
  cases aa with
  | none =>
    cases ts with
    | nil => exact Src.ofNil w hk cp
    | cons t r => obtain ⟨g, o, e, _⟩ := hc 0 t rfl; cases e
  | some a =>
    refine Src.ofSlice (size := 1) w hk a ts.length cp (ts.map (·.1)) (by simp) (fun j u hu => ?_) (fun u hu => ?_)
    · rw [List.getElem?_map, Option.map_eq_some_iff] at hu
      obtain ⟨t, ht, rfl⟩ := hu
      obtain ⟨g, o, e, c, _⟩ := hc j t ht
      cases e
      rw [Addr.add_lit]
      exact c
    · rw [List.mem_map] at hu
      obtain ⟨t, ht, rfl⟩ := hu
      obtain ⟨j, hj⟩ := List.getElem?_of_mem ht
      obtain ⟨g, o, e, c, b⟩ := hc j t hj
      obtain ⟨xa, xc, e2⟩ := b.slice
      rw [e2]
      rfl
end Go.Proofs.YtbkbecjgphjpkabDoor
