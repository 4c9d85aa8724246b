/- DiskSynced: loosen. -/
import Derived.Test.YtcdogciacchigaaW1
namespace Go.Proofs.Ytcdogciacchigaa
open Go.RowKit Go.Maps
set_option linter.unusedVariables false

def loosen1 (nm : Nm) (gone : Bool) (x : Sf) : List Sf := if x.nm = nm then (if gone then [] else [{ x with op := true }]) else [x]
def loosenL (l : List Sf) (nm : Nm) (gone : Bool) : List Sf := l.flatMap (loosen1 nm gone)
theorem loosen_take {l : List Sf} {i : Nat} {f : Sf} (hf : l[i]? = some f) (nm : Nm) (gone : Bool) : loosenL (l.take (i + 1)) nm gone = loosenL (l.take i) nm gone ++ loosen1 nm gone f := by
  unfold loosenL
  rw [List.take_add_one, hf, List.flatMap_append]
  simp
theorem loosen_len (l : List Sf) (nm : Nm) (gone : Bool) : (loosenL l nm gone).length ≤ l.length := by
  unfold loosenL
  induction l with
  | nil => simp
  | cons x r ih =>
    rw [List.flatMap_cons, List.length_append, List.length_cons]
    have : (loosen1 nm gone x).length ≤ 1 := by
      unfold loosen1
      split
      · split <;> simp
      · simp
    omega

set_option maxRecDepth 100000 in
set_option maxHeartbeats 8000000 in
theorem loosen19 (w : World) (R : Nat → Prop) (v : Value) (l : List Sf) (hl : (l.length + 1) * 48 ≤ 140737488355328) (hS : Sl R w v l) (nm : Nm) (gone : Bool) :
    Calls Try.prog 19 #[v, strV nm, .bool gone] w fun e w' => ∃ v', e = .returned v' ∧ Wk w.heap.size R w w' v' (loosenL l nm gone) := by
  obtain ⟨la, lc, rfl⟩ := hS.slice
  obtain ⟨B, hB⟩ : ∃ B, B = w.heap.size := ⟨_, rfl⟩
  have hst := Wk.start R w
  rw [← hB] at hst ⊢
  have HS := shut hS
  have HST := shut hst
  have hll : (l.length : Int) ≤ 9223372036854775806 := by omega
  clear hS hB hst
  unfold strV
  go_enter Try.func19, Try.ntmps19
  go_wp2_with fail
  go_loopw [7, 8] (fun x y wr => ∃ (i : Nat) (oa : Option Addr) (on oc : Nat), i ≤ l.length ∧ x = .slice oa on oc ∧ y = .int .i64 i ∧ Shut (Wk B R w wr (.slice oa on oc) (loosenL (l.take i) nm gone))) (fun _ y _ => l.length - (intOf y).toNat)
  case atStart => exact ⟨0, none, 0, 0, Nat.zero_le _, rfl, rfl, HST⟩
  case round =>
    obtain ⟨i, oa, on, oc, hi, rfl, rfl, HW⟩ := hrel
    have hfl : (loosenL (l.take i) nm gone).length ≤ l.length := by
      have h1 := loosen_len (l.take i) nm gone
      rw [List.length_take] at h1
      omega
    by_cases hlt : i < l.length
    · have hlt' : (i : Int) < (l.length : Int) := by omega
      obtain ⟨f, hf⟩ : ∃ f, l[i]? = some f := ⟨l[i], List.getElem?_eq_getElem hlt⟩
      obtain ⟨g, c, xa, xc, e1, c0, c1, c2, hO, hR⟩ := (HS.out.turn_no HW.out.turn).at i f hf
      have e1' : la = some ⟨g, 0, none⟩ := by simp at e1; exact e1.1
      subst e1'
      have hft := loosen_take hf nm gone
      have TA : Turn no wr (wr.alloc (.cells #[strV f.nm, .slice xa f.bs.length xc, .bool f.op] 63)) := (Turn.refl no wr).alloc _
      have hsz1 : (wr.alloc (.cells #[strV f.nm, .slice xa f.bs.length xc, .bool f.op] 63)).heap.size = wr.heap.size + 1 := by simp
      by_cases hnm : f.nm = nm
      · have hb1 : (f.nm == nm) = true := by simp [hnm]
        cases gone
        · have TS : Turn no wr (wr.alloc (.cells #[strV f.nm, .slice xa f.bs.length xc, .bool true] 63)) := (Turn.refl no wr).alloc _
          have hsz2 : (wr.alloc (.cells #[strV f.nm, .slice xa f.bs.length xc, .bool true] 63)).heap.size = wr.heap.size + 1 := by simp
          have e2 : loosen1 nm false f = [⟨f.nm, f.bs, true⟩] := by simp [loosen1, hnm]
          rw [e2] at hft
          obtain ⟨v6, w6, hap, hW6⟩ := HW.out.step TS (by omega) ⟨f.nm, f.bs, true⟩ (.slice xa f.bs.length xc) (hO.turn_no TS) (fun g hg => Or.inl (hR g hg)) rfl
          rw [← hft] at hW6
          obtain ⟨ya, yc, rfl⟩ := hW6.sl.slice
          have HW6 := shut hW6
          have HFT := shut hft
          have HNM := shut hnm
          clear hft hO hR e1 hW6 e2 TS TA
          rw [hsz2] at hap
          rw [hnm] at c0 hap
          clear hsz1 hsz2 hnm
          unfold strV at *
          go_wp2_with (at_builtin; refine wpList_append_run rfl _ _ (t := 56) (tx := 56) rfl _ _ rfl rfl (hap _) ?_)
          go_roundw
          case rel => exact ⟨i + 1, _, _, _, by omega, rfl, by go_num, HW6⟩
          case measure => simp [intOf]; omega
        · have e2 : loosen1 nm true f = [] := by simp [loosen1, hnm]
          rw [e2, List.append_nil] at hft
          have HW1 : Shut (Wk B R w (wr.alloc (.cells #[strV f.nm, .slice xa f.bs.length xc, .bool f.op] 63)) (.slice oa on oc) (loosenL (l.take (i + 1)) nm true)) := by
            show Wk _ _ _ _ _ _
            rw [hft]
            exact HW.out.then_no TA
          have HFT := shut hft
          have HNM := shut hnm
          clear hft hO hR e1 e2 TA
          rw [hnm] at c0 HW1
          clear hnm
          unfold strV at *
          go_wp2_with fail
          go_roundw
          case rel => exact ⟨i + 1, _, _, _, by omega, rfl, by go_num, HW1⟩
          case measure => simp [intOf]; omega
      · have hb1 : (f.nm == nm) = false := by simp [hnm]
        have e2 : loosen1 nm gone f = [f] := by simp [loosen1, hnm]
        rw [e2] at hft
        obtain ⟨v6, w6, hap, hW6⟩ := HW.out.step TA (by omega) f (.slice xa f.bs.length xc) (hO.turn_no TA) (fun g hg => Or.inl (hR g hg)) rfl
        rw [← hft] at hW6
        obtain ⟨ya, yc, rfl⟩ := hW6.sl.slice
        have HW6 := shut hW6
        have HFT := shut hft
        clear hft hO hR e1 hW6 e2 TA
        rw [hsz1] at hap
        clear hsz1
        unfold strV at *
        go_wp2_with (at_builtin; refine wpList_append_run rfl _ _ (t := 56) (tx := 56) rfl _ _ rfl rfl (hap _) ?_)
        go_roundw
        case rel => exact ⟨i + 1, _, _, _, by omega, rfl, by go_num, HW6⟩
        case measure => simp [intOf]; omega
    · have hlt' : ¬ (i : Int) < (l.length : Int) := by omega
      have hil : l.take i = l := List.take_of_length_le (by omega)
      rw [hil] at HW
      go_wp2_with fail
      go_ret
      exact ⟨_, rfl, HW.out⟩
end Go.Proofs.Ytcdogciacchigaa
