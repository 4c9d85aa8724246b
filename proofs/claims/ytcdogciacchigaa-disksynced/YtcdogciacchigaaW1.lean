/- DiskSynced: note. -/
import Derived.Test.YtcdogciacchigaaW0
namespace Go.Proofs.Ytcdogciacchigaa
open Go.RowKit Go.Maps
set_option linter.unusedVariables false

/-- A book under way, in R's blocks and in new ones. -/
structure Wk (B : Nat) (R : Nat → Prop) (w wr : World) (v : Value) (l : List Sf) : Prop where
  sl : Sl (fun k => R k ∨ (B ≤ k ∧ k < wr.heap.size)) wr v l
  new : ∀ g, v.ownBlock = some g → B ≤ g
  turn : Turn no w wr
  at_ : B = w.heap.size
theorem Wk.start (R : Nat → Prop) (w : World) : Wk w.heap.size R w w (.slice none 0 0) [] := ⟨Sl.nil _ _, (fun g hg => by cases hg), Turn.refl _ _, rfl⟩
theorem Wk.then_no {B : Nat} {R : Nat → Prop} {w wr W : World} {v : Value} {l : List Sf} (h : Wk B R w wr v l) (t : Turn no wr W) : Wk B R w W v l :=
  ⟨(h.sl.turn_no t).mono (fun k hk => hk.imp id (fun q => ⟨q.1, Nat.lt_of_lt_of_le q.2 t.size⟩)), h.new, h.turn.then_no t, h.at_⟩
theorem Wk.step {B : Nat} {R : Nat → Prop} {w wr W : World} {v : Value} {l : List Sf} (h : Wk B R w wr v l) (t : Turn no wr W) (hl : (l.length + 1) * 48 ≤ 140737488355328) (f : Sf) (u : Value) (hu : Own W 5 u (f.bs.map bv)) (hub : ∀ g, u.ownBlock = some g → R g ∨ (B ≤ g ∧ g < W.heap.size)) (h1 : u.oneCell' = true) :
    ∃ v' w6, (∀ ty, (Builtin.append_ #[56, 56] ty #[v, .slice (some ⟨W.heap.size, 0, none⟩) 1 1]).run Try.prog (W.alloc (.cells #[strV f.nm, u, .bool f.op] 63)) = .ok v' w6) ∧ Wk B R w w6 v' (l ++ [f]) := by
  have ta : Turn no W (W.alloc (.cells #[strV f.nm, u, .bool f.op] 63)) := (Turn.refl no W).alloc _
  have hS := h.then_no (t.then_no ta)
  have hsz := hS.turn.size
  have hta := ta.size
  have hB := h.at_
  obtain ⟨v', w6, hr, hI, hG⟩ := hS.sl.push hl f u (hu.turn_no ta) (fun g hg => (hub g hg).imp id (fun q => ⟨q.1, by omega⟩)) _ (src_sl W f.nm u f.op h1)
  have h6 := hG.turn.size
  refine ⟨v', w6, hr, ⟨hI.mono (fun k hk => ?_), fun g hg => ?_, hS.turn.trans hG.turn (fun k hk q => by have := h.new k q; omega), hB⟩⟩
  · rcases hk with (q | q) | q
    · exact Or.inl q
    · exact Or.inr ⟨q.1, by omega⟩
    · exact Or.inr ⟨by omega, q.2⟩
  · rcases hG.blk with e | ⟨g', e, e1, _⟩
    · exact h.new g (by rw [← e]; exact hg)
    · rw [e] at hg; cases hg; omega

def noteL (l : List Sf) (nm : Nm) (b : List UInt8) : List Sf := l.filter (fun x => x.nm != nm) ++ [⟨nm, b, false⟩]
theorem filter_take {l : List Sf} {i : Nat} {f : Sf} (hf : l[i]? = some f) (q : Sf → Bool) : (l.take (i + 1)).filter q = (l.take i).filter q ++ (if q f then [f] else []) := by
  rw [List.take_add_one, hf, List.filter_append]
  simp [List.filter_cons]

set_option maxRecDepth 100000 in
set_option maxHeartbeats 8000000 in
theorem note21 (w : World) (R : Nat → Prop) (v : Value) (l : List Sf) (hl : (l.length + 1) * 48 ≤ 140737488355328) (hS : Sl R w v l) (nm : Nm) (ba : Option Addr) (bc : Nat) (b : List UInt8) (hb : Own w 5 (.slice ba b.length bc) (b.map bv)) (hbR : ∀ g, (Value.slice ba b.length bc).ownBlock = some g → R g) :
    Calls Try.prog 21 #[v, strV nm, .slice ba b.length bc] w fun e w' => ∃ v', e = .returned v' ∧ Wk w.heap.size R w w' v' (noteL l nm b) := by
  obtain ⟨la, lc, rfl⟩ := hS.slice
  obtain ⟨B, hB⟩ : ∃ B, B = w.heap.size := ⟨_, rfl⟩
  have hst := Wk.start R w
  rw [← hB] at hst ⊢
  have HS := shut hS
  have HB := shut hb
  have HBR := shut hbR
  have HST := shut hst
  have hll : (l.length : Int) ≤ 9223372036854775806 := by omega
  clear hS hb hbR hB hst
  unfold strV
  go_enter Try.func21, Try.ntmps21
  go_wp2_with fail
  go_loopw [7, 8] (fun x y wr => ∃ (i : Nat) (oa : Option Addr) (on oc : Nat), i ≤ l.length ∧ x = .slice oa on oc ∧ y = .int .i64 i ∧ Shut (Wk B R w wr (.slice oa on oc) ((l.take i).filter (fun x => x.nm != nm)))) (fun _ y _ => l.length - (intOf y).toNat)
  case atStart => exact ⟨0, none, 0, 0, Nat.zero_le _, rfl, rfl, HST⟩
  case round =>
    obtain ⟨i, oa, on, oc, hi, rfl, rfl, HW⟩ := hrel
    have hfl : ((l.take i).filter (fun x => x.nm != nm)).length ≤ l.length := by
      have h1 := List.length_filter_le (fun x : Sf => x.nm != nm) (l.take i)
      rw [List.length_take] at h1
      omega
    by_cases hlt : i < l.length
    · have hlt' : (i : Int) < (l.length : Int) := by omega
      obtain ⟨f, hf⟩ : ∃ f, l[i]? = some f := ⟨l[i], List.getElem?_eq_getElem hlt⟩
      obtain ⟨g, c, xa, xc, e1, c0, c1, c2, hO, hR⟩ := (HS.out.turn_no HW.out.turn).at i f hf
      have e1' : la = some ⟨g, 0, none⟩ := by simp at e1; exact e1.1
      subst e1'
      have hft := filter_take hf (fun x => x.nm != nm)
      unfold strV at c0
      by_cases hnm : f.nm = nm
      · have hb0 : (f.nm != nm) = false := by simp [hnm]
        have hb1 : (f.nm == nm) = true := by simp [hnm]
        rw [hb0] at hft
        simp at hft
        have HFT := shut hft
        have HNM := shut hnm
        clear hft hO hR e1
        rw [hnm] at c0
        clear hnm
        go_wp2_with fail
        go_roundw
        case rel => exact ⟨i + 1, _, _, _, by omega, rfl, by go_num, by show Wk _ _ _ _ _ _; rw [HFT.out]; exact HW.out⟩
        case measure => simp [intOf]; omega
      · have hb0 : (f.nm != nm) = true := by simp [hnm]
        have hb1 : (f.nm == nm) = false := by simp [hnm]
        rw [hb0] at hft
        simp at hft
        obtain ⟨v6, w6, hap, hW6⟩ := HW.out.step (Turn.refl no wr) (by omega) f (.slice xa f.bs.length xc) hO (fun g hg => Or.inl (hR g hg)) rfl
        rw [← hft] at hW6
        obtain ⟨ya, yc, rfl⟩ := hW6.sl.slice
        have HW6 := shut hW6
        have HFT := shut hft
        clear hft hO hR e1 hW6
        unfold strV at hap
        go_wp2_with (at_builtin; refine wpList_append_run rfl _ _ (t := 56) (tx := 56) rfl _ _ rfl rfl (hap _) ?_)
        go_roundw
        case rel => exact ⟨i + 1, _, _, _, by omega, rfl, by go_num, HW6⟩
        case measure => simp [intOf]; omega
    · have hlt' : ¬ (i : Int) < (l.length : Int) := by omega
      have hil : l.take i = l := List.take_of_length_le (by omega)
      rw [hil] at HW
      obtain ⟨v6, w6, hap, hW6⟩ := HW.out.step (Turn.refl no wr) (by rw [hil] at hfl; omega) ⟨nm, b, false⟩ (.slice ba b.length bc) (HB.out.turn_no HW.out.turn) (fun g hg => Or.inl (HBR.out g hg)) rfl
      have HW6 := shut hW6
      clear hW6
      unfold strV at hap
      go_wp2_with (at_builtin; refine wpList_append_run rfl _ _ (t := 56) (tx := 56) rfl _ _ rfl rfl (hap _) ?_)
      go_ret
      exact ⟨_, rfl, HW6.out⟩
end Go.Proofs.Ytcdogciacchigaa
