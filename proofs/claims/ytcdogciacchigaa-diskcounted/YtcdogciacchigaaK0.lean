/- What DiskCounted's disk goes through. -/
import Derived.Test.YtcdogciacchigaaN0
namespace Go.Proofs.Ytcdogciacchigaa
set_option linter.unusedVariables false

def cBytes (j : Nat) : List UInt8 := (List.range j).map (fun x => UInt8.ofNat (x + 1))
theorem cBytes_succ (j : Nat) : cBytes (j + 1) = cBytes j ++ [UInt8.ofNat (j + 1)] := by simp [cBytes, List.range_succ]
theorem cBytes_len (j : Nat) : (cBytes j).length = j := by simp [cBytes]
def cF (j : Nat) : List Pf := if j = 0 then [] else [⟨[97], cBytes j, 0⟩]
def cTr (k : Nat) (done : Bool) : Tr := ⟨k, 2, done⟩
def cSt (k : Nat) (done : Bool) (i : Nat) : St :=
  if i < k then ⟨4096, cF i, i, [((k : Int), cTr k done)], 1, false, false⟩ else ⟨4096, cF (if done then k else k - 1), k, [], 1, true, false⟩
theorem nmA : isNm [97] = true := by decide
theorem cF_app (i : Nat) : appL (cF i) [97] [UInt8.ofNat (i + 1)] = cF (i + 1) := by
  unfold appL cF
  by_cases h : i = 0
  · subst h
    simp [fileOf, getF, putF, cBytes]
  · simp [h, fileOf, getF, putF, cBytes_succ]
theorem c_step (k : Nat) (done : Bool) (i : Nat) (hi : i < 64) : appS (cSt k done i) [97] [UInt8.ofNat (i + 1)] = (cSt k done (i + 1), if i + 1 < k then 0 else 63) := by
  by_cases h : i < k
  · have hst : cSt k done i = ⟨4096, cF i, i, [((k : Int), cTr k done)], 1, false, false⟩ := by simp [cSt, h]
    have ha : asked (cSt k done i) [97] = 0 := by simp [asked, hst, nmA]
    have hf : fitsB (cSt k done i) [97] (([UInt8.ofNat (i + 1)] : List UInt8).length : Int) = true := by
      rw [hst]
      simp only [fitsB, Bool.and_eq_true, Bool.or_eq_true, decide_eq_true_eq]
      constructor
      · have : usedF (cF i) ≤ 64 := by
          unfold cF usedF
          by_cases h0 : i = 0
          · simp [h0]
          · simp [h0, cBytes_len]; omega
        simp
        omega
      · right
        unfold cF
        by_cases h0 : i = 0
        · simp [h0]
        · simp [h0]
    unfold appS
    rw [if_neg (by rw [ha]; simp), if_neg (by rw [hf]; simp)]
    rw [hst]
    simp only [cF_app]
    by_cases h2 : i + 1 < k
    · have hne : ((k : Int) = (i : Int) + 1) = False := by simp; omega
      simp [numb, armAt, hne, cSt, h2]
    · have hk : k = i + 1 := by omega
      subst hk
      have h3 : (((i + 1 : Nat) : Int)) = (i : Int) + 1 := by omega
      cases done
      · simp [numb, armAt, h3, cSt, cTr]
      · simp [numb, armAt, h3, cSt, cTr]
  · have hst : cSt k done i = ⟨4096, cF (if done then k else k - 1), k, [], 1, true, false⟩ := by simp [cSt, h]
    have hst2 : cSt k done (i + 1) = ⟨4096, cF (if done then k else k - 1), k, [], 1, true, false⟩ := by simp [cSt, show ¬ i + 1 < k by omega]
    have ha : asked (cSt k done i) [97] = 63 := by simp [asked, hst]
    have h4 : (if i + 1 < k then (0 : Int) else 63) = 63 := if_neg (by omega)
    rw [appS, if_pos (by rw [ha]; simp), ha, hst, hst2, h4]
theorem c_start (k : Nat) (done : Bool) (h : 1 ≤ k) (h2 : k ≤ 20) : armS (newSt 4096) ⟨k, 2, done⟩ = (cSt k done 0, 0) := by
  have hok : okTr ⟨k, 2, done⟩ = true := by simp [okTr]; omega
  simp [armS, newSt, hok, cSt, show 0 < k by omega, cF, cTr]
end Go.Proofs.Ytcdogciacchigaa
