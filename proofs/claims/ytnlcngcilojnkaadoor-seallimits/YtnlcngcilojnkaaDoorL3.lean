/- The seals of the two greatest messages of zeros. -/
import Derived.Test.YtnlcngcilojnkaaDoorL1
import Derived.Test.YtnlcngcilojnkaaDoorL2
namespace Go.Proofs.YtnlcngcilojnkaaDoor
open Go.RowKit
set_option linter.unusedVariables false

/-- The text that is sealed, of so many zeros. -/
def txt (n : Nat) : List UInt8 := adE 7 ++ List.replicate n 0
theorem txt_len (n : Nat) : (txt n).length = 8 + n := by simp [txt, adE_len]
theorem txt_block (n i : Nat) (P : List UInt8) (h1 : 1 ≤ i) (h : 64 * i + 56 ≤ n) : ((txt n ++ P).drop (64 * i)).take 64 = zb := by
  unfold txt zb
  rw [List.append_assoc, List.drop_append, List.drop_of_length_le (by rw [adE_len]; omega), List.nil_append, adE_len, List.drop_append_of_le_length (by simp; omega), List.drop_replicate, List.take_append_of_le_length (by simp; omega), List.take_replicate]
  congr 1
  omega
theorem txt_first (n : Nat) (P : List UInt8) (h : 56 ≤ n) : ((txt n ++ P).drop (64 * 0)).take 64 = adE 7 ++ List.replicate 56 0 := by
  unfold txt
  rw [Nat.mul_zero, List.drop_zero, List.append_assoc, List.take_append, List.take_of_length_le (by rw [adE_len]; omega), adE_len, List.take_append_of_le_length (by simp; omega), List.take_replicate]
  congr 2
  omega
theorem sha_it (n : Nat) (P : List UInt8) : ∀ k, 64 * k + 56 ≤ n → shaP (txt n ++ P) (k + 1) = itC k (compress h0 (adE 7 ++ List.replicate 56 0))
  | 0, h => by rw [shaP, txt_first n P (by omega)]; rfl
  | k + 1, h => by rw [shaP, sha_it n P k (by omega), txt_block n (k + 1) P (by omega) h, itC_succ]
theorem first_block : compress h0 (adE 7 ++ List.replicate 56 0) = LW 2538168218 3169808742 3408150617 887387275 880819835 928262616 981001775 1484528329 := by decide +kernel
theorem all_blocks : itC 16383 (compress h0 (adE 7 ++ List.replicate 56 0)) = LW 1988257614 2791290577 1518753831 3244914314 2239328251 3851165241 2801326757 1998044223 := by
  rw [first_block]
  rw [show 16383 = 1024 + 15359 by rfl, itC_add, ck0]
  rw [show 15359 = 1024 + 14335 by rfl, itC_add, ck1]
  rw [show 14335 = 1024 + 13311 by rfl, itC_add, ck2]
  rw [show 13311 = 1024 + 12287 by rfl, itC_add, ck3]
  rw [show 12287 = 1024 + 11263 by rfl, itC_add, ck4]
  rw [show 11263 = 1024 + 10239 by rfl, itC_add, ck5]
  rw [show 10239 = 1024 + 9215 by rfl, itC_add, ck6]
  rw [show 9215 = 1024 + 8191 by rfl, itC_add, ck7]
  rw [show 8191 = 1024 + 7167 by rfl, itC_add, ck8]
  rw [show 7167 = 1024 + 6143 by rfl, itC_add, ck9]
  rw [show 6143 = 1024 + 5119 by rfl, itC_add, ck10]
  rw [show 5119 = 1024 + 4095 by rfl, itC_add, ck11]
  rw [show 4095 = 1024 + 3071 by rfl, itC_add, ck12]
  rw [show 3071 = 1024 + 2047 by rfl, itC_add, ck13]
  rw [show 2047 = 1024 + 1023 by rfl, itC_add, ck14]
  exact ck15
theorem last8 : compress (LW 1988257614 2791290577 1518753831 3244914314 2239328251 3851165241 2801326757 1998044223) (List.replicate 8 0 ++ padOf 1048584) = LW 1601222480 3989477002 289397135 1097984686 2240164404 65871954 4088528170 1560994631 := by decide +kernel
theorem last7 : compress (LW 1988257614 2791290577 1518753831 3244914314 2239328251 3851165241 2801326757 1998044223) (List.replicate 7 0 ++ padOf 1048583) = LW 1230445945 2434945542 431478146 3680010675 1177766394 1879819293 690959194 1012738377 := by decide +kernel
theorem pad8 : (padOf 1048584).length = 56 := by decide +kernel
theorem pad7 : (padOf 1048583).length = 57 := by decide +kernel
theorem txt_last (n k : Nat) (P : List UInt8) (h : n = 1048568 + k) (hk : k + P.length = 64) : ((txt n ++ P).drop (64 * 16384)).take 64 = List.replicate k 0 ++ P := by
  unfold txt
  rw [List.append_assoc, List.drop_append, List.drop_of_length_le (by rw [adE_len]; omega), List.nil_append, adE_len, List.drop_append_of_le_length (by simp; omega), List.drop_replicate, List.take_of_length_le (by simp; omega)]
  rw [show n - (64 * 16384 - 8) = k by omega]
theorem sha8 : shaOf (txt 1048576) = LW 1601222480 3989477002 289397135 1097984686 2240164404 65871954 4088528170 1560994631 := by
  unfold shaOf shaW
  rw [txt_len, show (8 + 1048576 : Nat) = 1048584 by rfl, List.length_append, txt_len, pad8, show (8 + 1048576 + 56) / 64 = 16384 + 1 by rfl, shaP]
  rw [txt_last 1048576 8 _ rfl (by rw [pad8]), show 16384 = 16383 + 1 by rfl, sha_it 1048576 _ 16383 (by omega), all_blocks, last8]
theorem sha7 : shaOf (txt 1048575) = LW 1230445945 2434945542 431478146 3680010675 1177766394 1879819293 690959194 1012738377 := by
  unfold shaOf shaW
  rw [txt_len, show (8 + 1048575 : Nat) = 1048583 by rfl, List.length_append, txt_len, pad7, show (8 + 1048575 + 57) / 64 = 16384 + 1 by rfl, shaP]
  rw [txt_last 1048575 7 _ rfl (by rw [pad7]), show 16384 = 16383 + 1 by rfl, sha_it 1048575 _ 16383 (by omega), all_blocks, last7]
theorem hash_ne : ((List.range 32).map (hashAt (LW 1230445945 2434945542 431478146 3680010675 1177766394 1879819293 690959194 1012738377))).take 16 ≠ ((List.range 32).map (hashAt (LW 1601222480 3989477002 289397135 1097984686 2240164404 65871954 4088528170 1560994631))).take 16 := by decide +kernel
theorem sealB_txt (n : Nat) : sealB 7 (List.replicate n 0) = ((List.range 32).map (hashAt (shaOf (txt n)))).take 16 := rfl
/-- The seals of the two greatest messages of zeros are unlike. -/
theorem seal_ne : sealB 7 (List.replicate 1048575 0) ≠ sealB 7 (List.replicate 1048576 0) := by
  rw [sealB_txt, sealB_txt, sha7, sha8]
  exact hash_ne
end Go.Proofs.YtnlcngcilojnkaaDoor
