/- MisdeedNil: the walk. -/
import Derived.Test.YtdgfkaoohfdmfaaGreatDoorN1
namespace Go.Proofs.YtdgfkaoohfdmfaaGreatDoor
open Go.RowKit
set_option linter.unusedVariables false

set_option maxRecDepth 100000 in
set_option maxHeartbeats 4000000 in
theorem nil3 (w : World) (S E : Array Value) (hs : (Tryz.prog.info? 37).map (·.size) = some S.size) (he : (Tryz.prog.info? 44).map (·.size) = some E.size) : Calls Tryz.prog 3 #[.agg S, .agg E] w fun e w' => e = .returned (.bool true) ∧ Turn no w w' := by
  have hE : E.size = 106 := by
    rw [size32] at he
    simpa using he.symm
  have T0 : Turn no w (((w.alloc (.cells S 37)).alloc (.cells E 44)).alloc (.cells #[.pointer none, .map none] 48)) := (((Turn.refl no w).alloc _).alloc _).alloc _
  have RS := ((Row.new w S 37).alloc (.cells E 44)).alloc (.cells #[.pointer none, .map none] 48)
  have RE := (Row.newAt (w.alloc (.cells S 37)) E 44 (w.heap.size + 1) (by simp)).alloc (.cells #[.pointer none, .map none] 48)
  have RP := (Row.newAt ((w.alloc (.cells S 37)).alloc (.cells E 44)) #[.pointer none, .map none] 48 (w.heap.size + 1 + 1) (by simp)).cell 0 _ rfl
  have HT0 := shut T0
  have HRS := shut RS
  have HRE := shut RE
  have HNZ : Shut (No (((w.alloc (.cells S 37)).alloc (.cells E 44)).alloc (.cells #[.pointer none, .map none] 48)) (.pointer (some ⟨w.heap.size + 1 + 1, 0, none⟩))) := Or.inr ⟨_, rfl, RP⟩
  clear T0 RS RE RP
  go_enter Tryz.func3, Tryz.ntmps3
  go_wp2_with fail
  generalize ((w.alloc (.cells S 37)).alloc (.cells E 44)).alloc (.cells #[.pointer none, .map none] 48) = w0 at *
  obtain ⟨z, hz⟩ : ∃ z, z = w.heap.size + 1 + 1 := ⟨_, rfl⟩
  rw [← hz]
  rw [← hz] at HNZ
  clear hz
  refine (sealnew7 w0).mono ?_
  rintro e w1 ⟨r, rfl, t1⟩
  have s1 := HRS.out.turn t1 (fun q => q)
  have e1 := HRE.out.turn t1 (fun q => q)
  have n1 := shut (HNZ.out.turn t1)
  have T1 := shut (HT0.out.then_no t1)
  clear t1 HRS HRE HNZ HT0
  obtain ⟨g, hg⟩ : ∃ g, g = w.heap.size := ⟨_, rfl⟩
  rw [← hg] at s1 e1
  rw [← hg]
  clear hg
  go_wp2_with (first | (refine wpList_load_row rfl 37 (.tmp 2) rfl g rfl 37 S _ _ s1 Tryz.underlying37 rfl hs ?_) | (refine wpList_load_row rfl 44 (.tmp 3) rfl (g + 1) rfl 44 E _ _ e1 Tryz.underlying44 rfl he ?_))
  refine (add8_no w1 (.pointer none) _ S E (Or.inl rfl)).mono ?_
  rintro e w2 ⟨rfl, t2⟩
  have s2 := s1.turn t2 (fun q => q)
  have e2 := e1.turn t2 (fun q => q)
  have n2 := shut (n1.out.turn t2)
  have T2 := shut (T1.out.then_no t2)
  clear t2 s1 e1 n1 T1
  go_wp2_with (first | (refine wpList_load_row rfl 37 (.tmp 2) rfl g rfl 37 S _ _ s2 Tryz.underlying37 rfl hs ?_) | (refine wpList_load_row rfl 44 (.tmp 3) rfl (g + 1) rfl 44 E _ _ e2 Tryz.underlying44 rfl he ?_))
  refine (add8_no w2 _ _ S E n2.out).mono ?_
  rintro e w3 ⟨rfl, t3⟩
  have s3 := s2.turn t3 (fun q => q)
  have e3 := e2.turn t3 (fun q => q)
  have n3 := shut (n2.out.turn t3)
  have T3 := shut (T2.out.then_no t3)
  clear t3 s2 e2 n2 T2
  go_wp2_with (first | (refine wpList_load_row rfl 37 (.tmp 2) rfl g rfl 37 S _ _ s3 Tryz.underlying37 rfl hs ?_) | (refine wpList_load_row rfl 44 (.tmp 3) rfl (g + 1) rfl 44 E _ _ e3 Tryz.underlying44 rfl he ?_))
  refine (pick9_no w3 (.pointer none) _ S (Or.inl rfl)).mono ?_
  rintro e w4 ⟨rfl, t4⟩
  have s4 := s3.turn t4 (fun q => q)
  have e4 := e3.turn t4 (fun q => q)
  have n4 := shut (n3.out.turn t4)
  have T4 := shut (T3.out.then_no t4)
  clear t4 s3 e3 n3 T3
  go_wp2_with (first | (refine wpList_load_row rfl 37 (.tmp 2) rfl g rfl 37 S _ _ s4 Tryz.underlying37 rfl hs ?_) | (refine wpList_load_row rfl 44 (.tmp 3) rfl (g + 1) rfl 44 E _ _ e4 Tryz.underlying44 rfl he ?_))
  refine (pick9_no w4 _ _ S n4.out).mono ?_
  rintro e w5 ⟨rfl, t5⟩
  have s5 := s4.turn t5 (fun q => q)
  have e5 := e4.turn t5 (fun q => q)
  have n5 := shut (n4.out.turn t5)
  have T5 := shut (T4.out.then_no t5)
  clear t5 s4 e4 n4 T4
  go_wp2_with (first | (refine wpList_load_row rfl 37 (.tmp 2) rfl g rfl 37 S _ _ s5 Tryz.underlying37 rfl hs ?_) | (refine wpList_load_row rfl 44 (.tmp 3) rfl (g + 1) rfl 44 E _ _ e5 Tryz.underlying44 rfl he ?_))
  refine (settle10_no w5 (.pointer none) _ S (Or.inl rfl)).mono ?_
  rintro e w6 ⟨rfl, t6⟩
  have s6 := s5.turn t6 (fun q => q)
  have e6 := e5.turn t6 (fun q => q)
  have n6 := shut (n5.out.turn t6)
  have T6 := shut (T5.out.then_no t6)
  clear t6 s5 e5 n5 T5
  go_wp2_with (first | (refine wpList_load_row rfl 37 (.tmp 2) rfl g rfl 37 S _ _ s6 Tryz.underlying37 rfl hs ?_) | (refine wpList_load_row rfl 44 (.tmp 3) rfl (g + 1) rfl 44 E _ _ e6 Tryz.underlying44 rfl he ?_))
  refine (settle10_no _ _ _ S (n6.out.turn ((Turn.refl no w6).alloc _))).mono ?_
  rintro e w7 ⟨rfl, t7⟩
  have d7 : Turn no w6 w7 := ((Turn.refl no w6).alloc _).then_no t7
  have s7 := s6.turn d7 (fun q => q)
  have e7 := e6.turn d7 (fun q => q)
  have n7 := shut (n6.out.turn d7)
  have T7 := shut (T6.out.then_no d7)
  clear t7 d7 s6 e6 n6 T6
  go_wp2_with fail
  refine (new7 w7).mono ?_
  rintro e w8 ⟨p, m, rfl, c0, c1, hm, t8⟩
  have s8 := s7.turn t8 (fun q => q)
  have e8 := e7.turn t8 (fun q => q)
  have n8 := shut (n7.out.turn t8)
  have T8 := shut (T7.out.then_no t8)
  have C8 := shut c0
  clear t8 s7 e7 n7 T7 c0 c1 hm
  go_wp2_with fail
  refine (alive4 w8).mono ?_
  rintro e w9 ⟨rfl, t9⟩
  have s9 := s8.turn t9 (fun q => q)
  have e9 := e8.turn t9 (fun q => q)
  have n9 := shut (n8.out.turn t9)
  have T9 := shut (T8.out.then_no t9)
  have C9 := shut (t9.keep C8.out (fun q => q))
  clear t9 s8 e8 n8 T8 C8
  go_wp2_with (first | (refine wpList_load_row rfl 37 (.tmp 2) rfl g rfl 37 S _ _ s9 Tryz.underlying37 rfl hs ?_) | (refine wpList_load_row rfl 44 (.tmp 3) rfl (g + 1) rfl 44 E _ _ e9 Tryz.underlying44 rfl he ?_))
  refine (pick9_nil w9 p S C9.out).mono ?_
  rintro e w10 ⟨rfl, t10⟩
  have s10 := s9.turn t10 (fun q => q)
  have e10 := e9.turn t10 (fun q => q)
  have n10 := shut (n9.out.turn t10)
  have T10 := shut (T9.out.then_no t10)
  have C10 := shut (t10.keep C9.out (fun q => q))
  clear t10 s9 e9 n9 T9 C9
  go_wp2_with (first | (refine wpList_load_row rfl 37 (.tmp 2) rfl g rfl 37 S _ _ s10 Tryz.underlying37 rfl hs ?_) | (refine wpList_load_row rfl 44 (.tmp 3) rfl (g + 1) rfl 44 E _ _ e10 Tryz.underlying44 rfl he ?_))
  refine (add8_nil w10 p S E hs he C10.out).mono ?_
  rintro e w11 ⟨rfl, t11⟩
  have n11 := shut (n10.out.turn t11)
  have T11 := shut (T10.out.then_no t11)
  clear t11 s10 e10 n10 T10 C10
  go_wp2_with fail
  refine (len13_no w11 (.pointer none) (Or.inl rfl)).mono ?_
  rintro e w12 ⟨rfl, rfl⟩
  go_wp2_with fail
  refine (len13_no w12 _ n11.out).mono ?_
  rintro e w13 ⟨rfl, rfl⟩
  go_wp2_with fail
  go_ret
  exact ⟨rfl, T11.out⟩
end Go.Proofs.YtdgfkaoohfdmfaaGreatDoor
