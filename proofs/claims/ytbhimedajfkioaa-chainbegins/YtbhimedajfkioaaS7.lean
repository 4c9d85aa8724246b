/- A state's cells; Params are equal to themselves. -/
import Derived.Test.YtbhimedajfkioaaS1
import Derived.Test.YtbhimedajfkioaaS5
import Derived.Test.YtbhimedajfkioaaS6
import Derived.Test.YtbhimedajfkioaaQ3
namespace Go.Proofs.Ytbhimedajfkioaa
open Go.RowKit
set_option linter.unusedVariables false

def pmL (p : Pm) : List Value := [.int .u64 p.mb, .int .i64 p.se, .int .u64 p.sl, .int .u64 p.pe, .int .u64 p.ag, .int .i64 p.mt, .int .u64 p.pr, .int .u64 p.vo, .int .u64 p.pa, .int .u64 p.re, .int .u64 p.tr, .int .u64 p.dr]
theorem fields54 : (Try.prog.fieldsOf 54).toList.map (fun f => (f.type, f.offset)) = [(25, 0), (3, 1), (25, 2), (25, 3), (25, 4), (3, 5), (25, 6), (25, 7), (25, 8), (25, 9), (25, 10), (25, 11)] := by kernel_rfl
theorem eq54 (w : World) (p : Pm) : (Op.equalIn 10000 54 (.agg (pmL p).toArray) (.agg (pmL p).toArray)).run Try.prog w = .ok true w := by
  rw [run_equalIn_struct w 9999 54 _ _ (by kernel_rfl) (by kernel_rfl)]
  refine eqFields_self w 9999 _ _ (fun f hf => ?_)
  have hm : (f.type, f.offset) ∈ [(25, 0), (3, 1), (25, 2), (25, 3), (25, 4), (3, 5), (25, 6), (25, 7), (25, 8), (25, 9), (25, 10), (25, 11)] := by
    rw [← fields54]
    exact List.mem_map.2 ⟨f, hf, rfl⟩
  generalize f.type = t at *
  generalize f.offset = o at *
  simp only [List.mem_cons, Prod.mk.injEq, List.not_mem_nil, or_false] at hm
  rcases hm with ⟨rfl, rfl⟩ | ⟨rfl, rfl⟩ | ⟨rfl, rfl⟩ | ⟨rfl, rfl⟩ | ⟨rfl, rfl⟩ | ⟨rfl, rfl⟩ | ⟨rfl, rfl⟩ | ⟨rfl, rfl⟩ | ⟨rfl, rfl⟩ | ⟨rfl, rfl⟩ | ⟨rfl, rfl⟩ | ⟨rfl, rfl⟩
  · exact ⟨_, cell_part w (v := .int .u64 p.mb) (by kernel_rfl) (by simp [pmL]), by rw [run_equalIn_int w 9998 25 .u64 .u64 _ _ Try.underlying25]; simp⟩
  · exact ⟨_, cell_part w (v := .int .i64 p.se) (by kernel_rfl) (by simp [pmL]), by rw [run_equalIn_int w 9998 3 .i64 .i64 _ _ Try.underlying3]; simp⟩
  · exact ⟨_, cell_part w (v := .int .u64 p.sl) (by kernel_rfl) (by simp [pmL]), by rw [run_equalIn_int w 9998 25 .u64 .u64 _ _ Try.underlying25]; simp⟩
  · exact ⟨_, cell_part w (v := .int .u64 p.pe) (by kernel_rfl) (by simp [pmL]), by rw [run_equalIn_int w 9998 25 .u64 .u64 _ _ Try.underlying25]; simp⟩
  · exact ⟨_, cell_part w (v := .int .u64 p.ag) (by kernel_rfl) (by simp [pmL]), by rw [run_equalIn_int w 9998 25 .u64 .u64 _ _ Try.underlying25]; simp⟩
  · exact ⟨_, cell_part w (v := .int .i64 p.mt) (by kernel_rfl) (by simp [pmL]), by rw [run_equalIn_int w 9998 3 .i64 .i64 _ _ Try.underlying3]; simp⟩
  · exact ⟨_, cell_part w (v := .int .u64 p.pr) (by kernel_rfl) (by simp [pmL]), by rw [run_equalIn_int w 9998 25 .u64 .u64 _ _ Try.underlying25]; simp⟩
  · exact ⟨_, cell_part w (v := .int .u64 p.vo) (by kernel_rfl) (by simp [pmL]), by rw [run_equalIn_int w 9998 25 .u64 .u64 _ _ Try.underlying25]; simp⟩
  · exact ⟨_, cell_part w (v := .int .u64 p.pa) (by kernel_rfl) (by simp [pmL]), by rw [run_equalIn_int w 9998 25 .u64 .u64 _ _ Try.underlying25]; simp⟩
  · exact ⟨_, cell_part w (v := .int .u64 p.re) (by kernel_rfl) (by simp [pmL]), by rw [run_equalIn_int w 9998 25 .u64 .u64 _ _ Try.underlying25]; simp⟩
  · exact ⟨_, cell_part w (v := .int .u64 p.tr) (by kernel_rfl) (by simp [pmL]), by rw [run_equalIn_int w 9998 25 .u64 .u64 _ _ Try.underlying25]; simp⟩
  · exact ⟨_, cell_part w (v := .int .u64 p.dr) (by kernel_rfl) (by simp [pmL]), by rw [run_equalIn_int w 9998 25 .u64 .u64 _ _ Try.underlying25]; simp⟩

/-- A state's cells, with nothing passed and none punished. -/
def stL (s : ByteArray) (p : Pm) (h t : Int) (v u va vr : Value) (b k : Int) : List Value := [.string s, .int .u64 p.mb, .int .i64 p.se, .int .u64 p.sl, .int .u64 p.pe, .int .u64 p.ag, .int .i64 p.mt, .int .u64 p.pr, .int .u64 p.vo, .int .u64 p.pa, .int .u64 p.re, .int .u64 p.tr, .int .u64 p.dr, .int .u64 h, .int .u64 t, .int .u8 0, .int .u8 0, .int .u8 0, .int .u8 0, .int .u8 0, .int .u8 0, .int .u8 0, .int .u8 0, .int .u8 0, .int .u8 0, .int .u8 0, .int .u8 0, .int .u8 0, .int .u8 0, .int .u8 0, .int .u8 0, .int .u8 0, .int .u8 0, .int .u8 0, .int .u8 0, .int .u8 0, .int .u8 0, .int .u8 0, .int .u8 0, .int .u8 0, .int .u8 0, .int .u8 0, .int .u8 0, .int .u8 0, .int .u8 0, .int .u8 0, .int .u8 0, v, u, .slice none 0 0, .slice none 0 0, va, vr, .int .u64 b, .int .u64 k]
theorem stL_pm (s : ByteArray) (p : Pm) (h t : Int) (v u va vr : Value) (b k : Int) (j : Nat) (x : Value) (hx : (pmL p)[j]? = some x) : (stL s p h t v u va vr b k).toArray[1 + j]? = some x := by
  have hj : j < 12 := (List.getElem?_eq_some_iff.1 hx).1
  rw [← hx]
  rcases j with _ | _ | _ | _ | _ | _ | _ | _ | _ | _ | _ | _ | j <;> first | rfl | omega
theorem stL_z (s : ByteArray) (p : Pm) (h t : Int) (v u va vr : Value) (b k : Int) (j : Nat) (x : Value) (hx : (zid.map bv)[j]? = some x) : (stL s p h t v u va vr b k).toArray[15 + j]? = some x := by
  have hj : j < 32 := (List.getElem?_eq_some_iff.1 hx).1
  rw [← hx]
  rcases j with _ | _ | _ | _ | _ | _ | _ | _ | _ | _ | _ | _ | _ | _ | _ | _ | _ | _ | _ | _ | _ | _ | _ | _ | _ | _ | _ | _ | _ | _ | _ | _ | j <;> first | rfl | omega
theorem stL_l (s : ByteArray) (p : Pm) (h t : Int) (v u va vr : Value) (b k : Int) (j : Nat) (x : Value) (hx : [va, vr, .int .u64 b, .int .u64 k][j]? = some x) : (stL s p h t v u va vr b k).toArray[51 + j]? = some x := by
  have hj : j < 4 := (List.getElem?_eq_some_iff.1 hx).1
  rw [← hx]
  rcases j with _ | _ | _ | _ | j <;> first | rfl | omega
theorem size54 (p : Pm) : (Try.prog.info? 54).map (·.size) = some (pmL p).length := by kernel_rfl
theorem size63 (va vr : Value) (b k : Int) : (Try.prog.info? 63).map (·.size) = some [va, vr, .int .u64 b, .int .u64 k].length := by kernel_rfl

end Go.Proofs.Ytbhimedajfkioaa
