/- Walks of the law: turnAll. -/
import Derived.Test.YtbkbecjgphjpkaaDoorR4
namespace Go.Proofs.YtbkbecjgphjpkaaDoor
open Go.RowKit
set_option linter.unusedVariables false

/-- The blocks of a list of byte lists. -/
def lfoot (v : Value) (vs : List Value) : Nat → Prop := fun k => v.ownBlock = some k ∨ ∃ u ∈ vs, u.ownBlock = some k

set_option maxRecDepth 100000 in
set_option maxHeartbeats 4000000 in
theorem turnAll19 (w : World) (v : Value) (vs : List Value) (S : Nat → Prop) (ho : Own w 22 v vs) (hS : ∀ k, lfoot v vs k → S k) (hap : Apart vs) (hel : ∀ u ∈ vs, ∃ r : List UInt8, r.length ≤ 1073741824 ∧ Own w 5 u (r.map bv)) (hle : vs.length ≤ 1073741824) :
    Calls Tryd.prog 19 #[v] w fun e w' => e = .returned (.tuple #[]) ∧ Turn S w w' := by
  obtain ⟨a, n, c, rfl, hn⟩ := ho.fn
  have hsh := ho.shape2
  have hn2 : n ≤ 1073741824 := by rw [hn.out]; exact hle
  go_enter Tryd.func19, Tryd.ntmps19
  go_wp2_with fail
  go_loopw [2] (fun i wr => ∃ (k : Nat) (us : List Value), k ≤ n ∧ us.length = n ∧ i = .int .i64 k ∧ Own wr 22 (.slice a n c) us ∧ (∀ j u, k ≤ j → us[j]? = some u → vs[j]? = some u ∧ ∃ r : List UInt8, r.length ≤ 1073741824 ∧ Own wr 5 u (r.map bv)) ∧ Turn S w wr) (fun i _ => n - (intOf i).toNat)
  case atStart => exact ⟨0, vs, Nat.zero_le _, hn.out.symm, rfl, ho, (fun j u _ hu => ⟨hu, hel u (List.mem_of_getElem? hu)⟩), Turn.refl _ _⟩
  case round =>
    obtain ⟨k, us, hk, hus, rfl, O, hE, T⟩ := hrel
    by_cases hlt : k < n
    · rcases hsh with ⟨rfl, rfl, rfl, _⟩ | ⟨g, rfl, hbc, hbc2⟩
      · omega
      have hlt' : (k : Int) < (n : Int) := by omega
      have hk1 : Hid (k + 1 ≤ n) := hlt
      obtain ⟨u, hu⟩ : ∃ u, us[k]? = some u := ⟨us[k]'(by omega), List.getElem?_eq_getElem _⟩
      obtain ⟨hvk, r, hr, Ou⟩ := hE k u (Nat.le_refl _) hu
      have cx : wr.cell? ⟨g, k, none⟩ = some u := O.cell k u hu
      have c1 := turn15 wr u r Ou (by omega)
      obtain ⟨ua, un, uc, rfl⟩ := Ou.form
      go_wp2_with fail
      refine c1.mono ?_
      rintro e w1 ⟨rfl, t1⟩
      have hSu : ∀ q, (Value.slice ua un uc).ownBlock = some q → S q := fun q hq => hS q (Or.inr ⟨_, List.mem_of_getElem? hvk, hq⟩)
      have T1 : Turn S w w1 := T.trans t1 (fun i hi q => hSu i q)
      have O1 := O.turn t1 (fun q hq hq2 => own_ne O Ou (by decide) q hq hq2)
      have f1 := O1.frz k
      have cx1 : w1.cell? ⟨g, k, none⟩ = some (.slice ua un uc) := O1.cell k _ hu
      have O2 := O1.setAt' k (by omega) (.slice none 0 0)
      have T2 : Turn S w (w1.setCell ⟨g, k, none⟩ (.slice none 0 0)) := T1.setCell (fun _ => hS g (Or.inl rfl)) _
      have hE2 : ∀ j x, k + 1 ≤ j → (us.set k (.slice none 0 0))[j]? = some x → vs[j]? = some x ∧ ∃ r : List UInt8, r.length ≤ 1073741824 ∧ Own (w1.setCell ⟨g, k, none⟩ (.slice none 0 0)) 5 x (r.map bv) := by
        intro j x hj hx
        rw [List.getElem?_set_ne (by omega)] at hx
        obtain ⟨hvj, r', hr', Ox⟩ := hE j x (by omega) hx
        refine ⟨hvj, r', hr', ?_⟩
        have Ox1 := Ox.turn t1 (fun q hq hq2 => hap k j _ _ (by omega) hvk hvj q hq2 hq)
        exact Ox1.turn (S := fun q => q = g) ((Turn.refl (fun q => q = g) w1).setCell (p := ⟨g, k, none⟩) (fun _ => rfl) _) (fun q hq hq2 => by subst hq2; exact own_ne O1 Ox1 (by decide) q rfl hq)
      have hl2 : Hid ((us.set k (.slice none 0 0)).length = n) := by show (us.set k (.slice none 0 0)).length = n; rw [List.length_set]; exact hus
      have HE2 := Hid.mk' hE2
      clear c1 hE hE2 t1 O T O1 T1 Ou hvk
      go_wp2_with fail
      go_roundw
      case rel => exact ⟨k + 1, _, hk1.out, hl2.out, by go_num, O2, HE2.out, T2⟩
      case measure => have := hk1.out; simp [intOf]; omega
    · have hlt' : ¬ (k : Int) < (n : Int) := by omega
      have hSv : ∀ q, (Value.slice a n c).ownBlock = some q → S q := fun q hq => hS q (Or.inl hq)
      clear hsh ho hn hE hel hap hS
      go_wp2_with fail
      go_loopw [0, 3] (fun b j wr => ∃ (m : Nat) (ds : List Value), m ≤ 20 ∧ ds.length = n + m ∧ j = .int .i64 m ∧ Own wr 22 b ds ∧ (∀ g, b.ownBlock = some g → S g ∨ w.heap.size ≤ g) ∧ Turn S w wr) (fun _ j _ => 20 - (intOf j).toNat)
      case atStart => exact ⟨0, us, by omega, by omega, rfl, O, fun g q => Or.inl (hSv g q), T⟩
      case round =>
        obtain ⟨m, ds, hm, hds, rfl, P, hf, U⟩ := hrel
        clear O T
        obtain ⟨ba, bn, bc, rfl⟩ := P.form
        by_cases h20 : m < 20
        · have h20' : (m : Int) < 20 := by omega
          go_wp2_with (at_builtin; refine wpList_append_src rfl (.tmp 22) (.tmp 24) rfl Tryd.underlying32 info22 rfl _ ds rfl ((P.turn_no ((Turn.refl no _).alloc _)).turn_no ((Turn.refl no _).alloc _)) _ 1 [.slice (some ⟨wr.heap.size, 0, none⟩) 1 1] rfl ?src ?bb ?mm ?_)
          case src =>
            have hq := src_oneT (e := 22) Tryd.underlying32 (wr.alloc (.cells #[.int .u8 7] 5)) (.slice (some ⟨wr.heap.size, 0, none⟩) 1 1) rfl
            simp at hq
            exact hq
          case bb => omega
          case mm => unfold maxLen; omega
          intro v1 w1 O1 g1 _
          have U1 : Turn S w w1 := ((U.alloc _).alloc _).grown g1.grown (fun k q hk => (hf k q).resolve_right (by omega))
          have f1 : ∀ g, v1.ownBlock = some g → S g ∨ w.heap.size ≤ g := by
            intro g q
            rcases g1.blk with e | ⟨g', e, h1, _⟩
            · rw [e] at q; exact hf g q
            · rw [e] at q; cases q
              refine Or.inr ?_
              have := U.size
              simp at h1
              omega
          obtain ⟨va, vn, vc, rfl⟩ := O1.form
          clear g1 P U hf
          go_wp2_with fail
          go_roundw
          case rel => exact ⟨m + 1, _, by omega, by simp; omega, by go_num, O1, f1, U1⟩
          case measure => simp [intOf]; omega
        · have h20' : ¬ (m : Int) < 20 := by omega
          go_wp2_with fail
          go_end0
          exact ⟨rfl, U⟩
end Go.Proofs.YtbkbecjgphjpkaaDoor
