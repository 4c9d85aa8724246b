/- Texts in one. -/
import Derived.Test.YtaoigopjfelgpaaGreatDoorFb
import Derived.Test.YtaoigopjfelgpaaGreatDoorFa
import Derived.Test.YtaoigopjfelgpaaGreatDoorBaseN
import Derived.Test.YtaoigopjfelgpaaGreatDoorCm
import Derived.Deep.CutRange
import Derived.Deep.MidRow
import Derived.Laws.ResultCell
/- What a proof leads to, plain; a list of digests in memory. -/
namespace Go.Proofs.YtaoigopjfelgpaaGreatDoor
open Go.RowKit
set_option linter.unusedVariables false

def upF : Nat → Nat → Nat → List (List UInt8) → List UInt8 → List UInt8
  | 0, _, _, _, x => x
  | f + 1, n, a, A, x => if n ≤ 1 then x else if a < splitN n then hashOf (1 :: (upF f (splitN n) a A.dropLast x ++ A.getLastD [])) else hashOf (1 :: (A.getLastD [] ++ upF f (n - splitN n) (a - splitN n) A.dropLast x))
theorem upF_more : ∀ (f n a : Nat) (A : List (List UInt8)) (x : List UInt8), n ≤ f → upF (f + 1) n a A x = upF f n a A x
  | 0, n, a, A, x, h => by
    show (if n ≤ 1 then x else _) = x
    rw [if_pos (by omega)]
  | f + 1, n, a, A, x, h => by
    show (if n ≤ 1 then x else if a < splitN n then hashOf (1 :: (upF (f + 1) (splitN n) a A.dropLast x ++ A.getLastD [])) else hashOf (1 :: (A.getLastD [] ++ upF (f + 1) (n - splitN n) (a - splitN n) A.dropLast x))) = (if n ≤ 1 then x else if a < splitN n then hashOf (1 :: (upF f (splitN n) a A.dropLast x ++ A.getLastD [])) else hashOf (1 :: (A.getLastD [] ++ upF f (n - splitN n) (a - splitN n) A.dropLast x)))
    by_cases h1 : n ≤ 1
    · rw [if_pos h1, if_pos h1]
    · have h2 := splitN_lt n (by omega)
      have h3 := splitN_pos n
      rw [if_neg h1, if_neg h1, upF_more f (splitN n) a _ x (by omega), upF_more f (n - splitN n) (a - splitN n) _ x (by omega)]
/-- The top that a leaf and the digests beside its way lead to. -/
def upH (n a : Nat) (A : List (List UInt8)) (x : List UInt8) : List UInt8 := upF n n a A x
theorem upF_eq (f n a : Nat) (A : List (List UInt8)) (x : List UInt8) (h : n ≤ f) : upF f n a A x = upH n a A x := by
  obtain ⟨d, rfl⟩ : ∃ d, f = n + d := ⟨f - n, by omega⟩
  induction d with
  | zero => rfl
  | succ d ih => rw [← Nat.add_assoc, upF_more _ n a A x (by omega)]; exact ih (by omega)
theorem upH_one (a : Nat) (A : List (List UInt8)) (x : List UInt8) : upH 1 a A x = x := rfl
theorem upH_left (n a : Nat) (A : List (List UInt8)) (x : List UInt8) (h : 2 ≤ n) (ha : a < splitN n) : upH n a A x = hashOf (1 :: (upH (splitN n) a A.dropLast x ++ A.getLastD [])) := by
  obtain ⟨m, rfl⟩ : ∃ m, n = m + 1 := ⟨n - 1, by omega⟩
  have h2 := splitN_lt (m + 1) (by omega)
  show (if m + 1 ≤ 1 then x else if a < splitN (m + 1) then hashOf (1 :: (upF m (splitN (m + 1)) a A.dropLast x ++ A.getLastD [])) else _) = _
  rw [if_neg (by omega), if_pos ha, upF_eq _ _ _ _ _ (by omega)]
theorem upH_right (n a : Nat) (A : List (List UInt8)) (x : List UInt8) (h : 2 ≤ n) (ha : ¬ a < splitN n) : upH n a A x = hashOf (1 :: (A.getLastD [] ++ upH (n - splitN n) (a - splitN n) A.dropLast x)) := by
  obtain ⟨m, rfl⟩ : ∃ m, n = m + 1 := ⟨n - 1, by omega⟩
  have h2 := splitN_pos (m + 1)
  show (if m + 1 ≤ 1 then x else if a < splitN (m + 1) then _ else hashOf (1 :: (A.getLastD [] ++ upF m (m + 1 - splitN (m + 1)) (a - splitN (m + 1)) A.dropLast x))) = _
  rw [if_neg (by omega), if_neg ha, upF_eq _ _ _ _ _ (by omega)]
theorem upH_len (n a : Nat) (A : List (List UInt8)) (x : List UInt8) (hx : x.length = 32) : (upH n a A x).length = 32 := by
  by_cases h : n ≤ 1
  · match n, h with
    | 0, _ => exact hx
    | 1, _ => exact hx
  · by_cases ha : a < splitN n
    · rw [upH_left n a A x (by omega) ha]; exact hashOf_len _
    · rw [upH_right n a A x (by omega) ha]; exact hashOf_len _
/-- A list of digests, wherever it lies. -/
structure HsAt (w : World) (a : Option Addr) (cap : Nat) (l : List (List UInt8)) : Prop where
  le : l.length ≤ cap
  cap : cap ≤ maxLen
  ok : ∀ m ∈ l, m.length = 32
  cells : ∀ (j : Nat) m, l[j]? = some m → ∃ b off, a = some ⟨b, off, none⟩ ∧ w.rangeAt b (off + j * 32) (m.map bv)
theorem HsAt.turn {S : Nat → Prop} {w w' : World} {a : Option Addr} {cap : Nat} {l : List (List UInt8)} (h : HsAt w a cap l) (t : Turn S w w') (hn : ∀ x, a = some x → ¬ S x.block) : HsAt w' a cap l :=
  ⟨h.le, h.cap, h.ok, fun j m hj => by
    obtain ⟨b, off, e, c⟩ := h.cells j m hj
    exact ⟨b, off, e, fun i v hi => t.keep (c i v hi) (by have := hn _ e; exact this)⟩⟩
theorem HsAt.turn_no {w w' : World} {a : Option Addr} {cap : Nat} {l : List (List UInt8)} (h : HsAt w a cap l) (t : Turn no w w') : HsAt w' a cap l := h.turn t (fun _ _ q => q)
theorem HsAt.front {w : World} {a : Option Addr} {cap : Nat} {l r : List (List UInt8)} (h : HsAt w a cap (l ++ r)) : HsAt w a cap l :=
  ⟨by have := h.le; simp at this; omega, h.cap, fun m hm => h.ok m (by simp [hm]), fun j m hj => h.cells j m (by rw [List.getElem?_append_left (List.getElem?_eq_some_iff.1 hj).1]; exact hj)⟩
theorem HsAt.init {w : World} {a : Option Addr} {cap : Nat} {l : List (List UInt8)} (h : HsAt w a cap l) : HsAt w a cap l.dropLast := by
  cases hl : l with
  | nil => rw [hl] at h; exact h
  | cons x r =>
    have e : l = l.dropLast ++ [l.getLast (by rw [hl]; simp)] := (List.dropLast_concat_getLast _).symm
    rw [e] at h
    have := h.front
    rw [← hl]
    exact this
/-- The last one. -/
theorem HsAt.last {w : World} {a : Option Addr} {cap : Nat} {l : List (List UInt8)} (h : HsAt w a cap l) (h0 : 0 < l.length) : ∃ b off, a = some ⟨b, off, none⟩ ∧ w.rangeAt b (off + (l.length - 1) * 32) ((l.getLastD []).map bv) ∧ (l.getLastD []).length = 32 := by
  have hm : l[l.length - 1]? = some (l.getLastD []) := by
    rw [List.getLastD_eq_getLast?, List.getLast?_eq_getElem?]
    have : l.length - 1 < l.length := by omega
    rw [List.getElem?_eq_getElem this]
    rfl
  obtain ⟨b, off, e, c⟩ := h.cells _ _ hm
  exact ⟨b, off, e, c, h.ok _ (List.mem_of_getElem? hm)⟩
end Go.Proofs.YtaoigopjfelgpaaGreatDoor



/- climb. -/
namespace Go.Proofs.YtaoigopjfelgpaaGreatDoor
open Go.RowKit
set_option linter.unusedVariables false

theorem hb32_size {X : List UInt8} (h : X.length = 32) : (hb32 X).size = 32 := by simpa [hb32] using h
theorem hb32_one (X : List UInt8) : (hb32 X).all (·.oneCell') = true := by simp [hb32, bv, Value.oneCell']
theorem hb32_info {X : List UInt8} (h : X.length = 32) : (Tryz.prog.info? 40).map (·.size) = some (hb32 X).size := by rw [hb32_size h]; exact size35
theorem Row.setOther {w : World} {g : Nat} {cs : Array Value} {e : TypeId} (h : Row w g cs e) {k : Nat} (hk : k ≠ g) (ds : Array Value) : Row (w.setRow k ds) g cs e := by
  unfold Row at *
  rw [setRow_other w k g ds (fun q => hk q.symm)]
  exact h
theorem Row.rng {w : World} {g : Nat} {X : Array Value} {e : TypeId} (h : Row w g X e) : w.rangeAt g 0 X.toList := fun j v hv => by
  rw [Nat.zero_add]
  exact h.cell j v (by simpa using hv)
end Go.Proofs.YtaoigopjfelgpaaGreatDoor



/- up. -/
namespace Go.Proofs.YtaoigopjfelgpaaGreatDoor
open Go.RowKit
set_option linter.unusedVariables false

section
variable {P : Program} {ops : Array Oper} {rest : List Oper} {o : Oper} {a : Act} {w : World} {Q : Exit → Act → World → Prop}
/-- A store over a whole block; of the world behind it only that. -/
theorem wpList_store_anyN (hgd : o.guard = none) (hd : o.dst = none) (ty : TypeId) (x y : Operand) (ho : o.op = .store ty x y)
    (g : Nat) (cells : Array Value) (hx : a.eval x = .pointer (some ⟨g, 0, none⟩)) (hy : a.eval y = .agg cells)
    (t : TypeId) (old : Array Value) (hg : Row w g old t) (hi : (P.info? ty).map (·.size) = some cells.size)
    (hold : old.size = cells.size) (h1 : cells.all (·.oneCell') = true)
    (h : ∀ w', Row w' g cells t → Turn (fun k => k = g) w w' → wpList P ops Q rest a w') : wpList P ops Q (o :: rest) a w :=
  wpList_store_row hgd ty x y ho g cells hx hy t old hg hi hold h1 (by rw [hd]; exact h _ (setRow_heap w g old cells t _ hg) ((Turn.refl _ w).setRow g cells (fun _ => rfl)))
end
end Go.Proofs.YtaoigopjfelgpaaGreatDoor



/- Path. -/
namespace Go.Proofs.YtaoigopjfelgpaaGreatDoor
open Go.RowKit
set_option linter.unusedVariables false

def z32 : List UInt8 := List.replicate 32 0
theorem z32_len : z32.length = 32 := rfl
/-- What Path answers: the number. -/
def pathE (t i : Int) (n m : Nat) : Int := if 1048576 < m then 4 else if fitsB t i n = true then 0 else 20
/-- What Path answers: the digest. -/
def pathH (t i : Int) (A : List (List UInt8)) (x : List UInt8) : List UInt8 := if pathE t i A.length x.length = 0 then hashOf (2 :: (numE t.toNat ++ upH t.toNat i.toNat A (hashOf (0 :: x)))) else z32
theorem pathH_len (t i : Int) (A : List (List UInt8)) (x : List UInt8) : (pathH t i A x).length = 32 := by
  unfold pathH
  split
  · exact hashOf_len _
  · rfl
theorem bld35 (w : World) : (Instr.build 40 #[]).run Tryz.prog w = .ok (.agg (hb32 z32)) w := by kernel_rfl
theorem zero35v (w : World) : (zeroValue 40).run Tryz.prog w = .ok (.agg (hb32 z32)) w := by kernel_rfl
section
variable {P : Program} {ops : Array Oper} {rest : List Oper} {op : Oper} {a : Act} {w : World} {Q : Exit → Act → World → Prop}
theorem wpList_want (hg : Region.wanted op (yielded ops a.tmps) = true) (h : ∀ K : Act → World → Prop, (∀ a w, wpList P ops Q rest a w → K a w) → op.wp P a w K Q) : wpList P ops Q (op :: rest) a w :=
  wpList_step fun K hK => by simp only [hg, if_true]; exact h K hK
theorem wpList_buildG (hgd : Region.wanted op (yielded ops a.tmps) = true) (t : TypeId) (ho : op.op = .build t #[]) (r : Value) (hr : (Instr.build t #[]).run P w = .ok r w) (h : wpList P ops Q rest (a.put op.dst r) w) : wpList P ops Q (op :: rest) a w :=
  wpList_want hgd fun K hK => by
    unfold Oper.wp execOp
    simp only [ho, Sem.run_bind, List.map_toArray, List.map_nil, hr, Result.andThen_ok, Sem.run_pure]
    exact hK _ _ h
end
end Go.Proofs.YtaoigopjfelgpaaGreatDoor



/- The document's Path; Verify of both. -/
namespace Go.Proofs.YtaoigopjfelgpaaGreatDoor
open Go.RowKit
set_option linter.unusedVariables false

/-- What Verify answers. -/
def verE (rt : List UInt8) (t i : Int) (A : List (List UInt8)) (x : List UInt8) : Int := if pathE t i A.length x.length ≠ 0 then pathE t i A.length x.length else if pathH t i A x = rt then 0 else 21
end Go.Proofs.YtaoigopjfelgpaaGreatDoor



/- A list of digests as cells; appends; same. -/
namespace Go.Proofs.YtaoigopjfelgpaaGreatDoor
open Go.RowKit
set_option linter.unusedVariables false

theorem Row.src1 {P : Program} {t e' e : TypeId} {size : Nat} (hk : P.underlying t = some (.slice e')) {W : World} {g : Nat} {X : Array Value} (h : Row W g X e) (hX : X.size = size) (h1 : ∀ u ∈ X.toList, u.oneCell' = true) : Src P size t (.slice (some ⟨g, 0, none⟩) 1 1) 1 X.toList W := by
  refine Src.ofSlice W hk _ _ _ _ (by simp [hX]) (fun j u hu => ?_) h1
  rw [Addr.add_lit, Nat.zero_add]
  exact h.cell j u (by simpa using hu)
section
variable {P : Program} {t e : TypeId} {z : Value} {size bytes : Nat}
/-- The first append: onto what is empty. -/
theorem app_first (ht : P.underlying t = some (.slice e)) (hinf : (P.info? e).map (fun i => (i.zero, i.size, i.bytes)) = some (some z, size, bytes)) (hz : z.cells.size = size) (hsz : 0 < size)
    {w W0 : World} (T : Turn no w W0) {v0 : Value} (O : OwnN W0 e size v0 0 []) (f : ∀ g, v0.ownBlock = some g → w.heap.size ≤ g) {vs : Value} {n : Nat} {news : List Value} (hs : Src P size t vs n news W0) (hb : (n + 1) * bytes ≤ 140737488355328) (hm : n + 1 ≤ maxLen) :
    ∃ v1 w1, (Builtin.append_ #[t, t] t #[v0, vs]).run P W0 = .ok v1 w1 ∧ OwnN w1 e size v1 n news ∧ (∀ g, v1.ownBlock = some g → w.heap.size ≤ g) ∧ Turn no w w1 ∧ Turn (fun k => v0.ownBlock = some k) W0 w1 ∧ ∃ a c, v1 = .slice a n c := by
  obtain ⟨v1, w1, hr, O1, G1⟩ := run_append_srcN (P := P) ht hinf hz hsz t W0 v0 0 [] O vs n news hs (Nat.le_trans (Nat.mul_le_mul_right _ (by omega)) hb) (by omega)
  rw [Nat.zero_add, List.nil_append] at O1
  obtain ⟨a, c, e1, _⟩ := O1.form
  exact ⟨v1, w1, hr, O1, G1.fresh f T.size, T.trans G1.turn (fun k hk q => by have := f k q; omega), G1.turn, a, c, e1⟩
/-- The second: one element. -/
theorem app_second (ht : P.underlying t = some (.slice e)) (hinf : (P.info? e).map (fun i => (i.zero, i.size, i.bytes)) = some (some z, size, bytes)) (hz : z.cells.size = size) (hsz : 0 < size)
    {w W1 : World} (T : Turn no w W1) {v1 : Value} {n : Nat} {news : List Value} (O : OwnN W1 e size v1 n news) (f : ∀ g, v1.ownBlock = some g → w.heap.size ≤ g) {g : Nat} {X : Array Value} (hR : Row W1 g X e) (hX : X.size = size) (h1 : ∀ u ∈ X.toList, u.oneCell' = true) (hb : (n + 1) * bytes ≤ 140737488355328) (hm : n + 1 ≤ maxLen) :
    ∃ v2 w2, (Builtin.append_ #[t, t] t #[v1, .slice (some ⟨g, 0, none⟩) 1 1]).run P W1 = .ok v2 w2 ∧ OwnN w2 e size v2 (n + 1) (news ++ X.toList) ∧ Turn no w w2 ∧ ∃ g2 c2, v2 = .slice (some ⟨g2, 0, none⟩) (n + 1) c2 ∧ n + 1 ≤ c2 ∧ w.heap.size ≤ g2 := by
  obtain ⟨v2, w2, hr, O2, G2⟩ := run_append_srcN (P := P) ht hinf hz hsz t W1 v1 n news O (.slice (some ⟨g, 0, none⟩) 1 1) 1 X.toList (hR.src1 ht hX h1) hb hm
  refine ⟨v2, w2, hr, O2, T.trans G2.turn (fun k hk q => by have := f k q; omega), ?_⟩
  rcases O2.2 with ⟨_, q⟩ | ⟨g2, c2, cur, e2, _, _, h2, _⟩
  · omega
  · exact ⟨g2, c2, e2, h2, G2.fresh f T.size g2 (by rw [e2]; rfl)⟩
end
def hsF (l : List (List UInt8)) : List Value := l.flatMap (·.map bv)
theorem hsF_len : ∀ (l : List (List UInt8)), (∀ m ∈ l, m.length = 32) → (hsF l).length = l.length * 32
  | [], _ => rfl
  | m :: r, h => by
    rw [hsF, List.flatMap_cons, List.length_append, List.length_map, h m (by simp), ← hsF, hsF_len r (fun x hx => h x (by simp [hx])), List.length_cons]
    omega
theorem hsF_append (a b : List (List UInt8)) : hsF (a ++ b) = hsF a ++ hsF b := by simp [hsF]
theorem hsF_at : ∀ (l : List (List UInt8)), (∀ m ∈ l, m.length = 32) → ∀ (j : Nat) (m : List UInt8), l[j]? = some m → ∀ i, i < 32 → (hsF l)[j * 32 + i]? = (m.map bv)[i]?
  | x :: r, hk, 0, m, h, i, hi => by
    simp at h
    subst h
    rw [hsF, List.flatMap_cons, Nat.zero_mul, Nat.zero_add, List.getElem?_append_left (by rw [List.length_map, hk _ (by simp)]; exact hi)]
  | x :: r, hk, j + 1, m, h, i, hi => by
    have hx := hk x (by simp)
    rw [hsF, List.flatMap_cons, List.getElem?_append_right (by rw [List.length_map]; omega)]
    have := hsF_at r (fun x hx => hk x (by simp [hx])) j m (by simpa using h) i hi
    rw [hsF] at this
    rw [← this, List.length_map, hx]
    congr 1
    omega
theorem hsF_one (l : List (List UInt8)) : ∀ u ∈ hsF l, u.oneCell' = true := by
  intro u hu
  obtain ⟨m, _, hu⟩ := List.mem_flatMap.1 hu
  obtain ⟨b, _, rfl⟩ := List.mem_map.1 hu
  rfl
theorem HsAt.src {w : World} {a : Option Addr} {cap : Nat} {l : List (List UInt8)} (h : HsAt w a cap l) : Src Tryz.prog 32 51 (.slice a l.length cap) l.length (hsF l) w := by
  cases a with
  | none =>
    have : l = [] := by
      cases l with
      | nil => rfl
      | cons m r =>
        obtain ⟨b, off, e, _⟩ := h.cells 0 m rfl
        cases e
    subst this
    exact Src.ofNil w Tryz.underlying51 cap
  | some a =>
    refine Src.ofSlice w Tryz.underlying51 a l.length cap (hsF l) (hsF_len l h.ok) (fun j u hu => ?_) (hsF_one l)
    have hj : j < l.length * 32 := by rw [← hsF_len l h.ok]; exact (List.getElem?_eq_some_iff.1 hu).1
    have hm : l[j / 32]? = some (l[j / 32]'(by omega)) := List.getElem?_eq_getElem (by omega)
    obtain ⟨b, off, e, c⟩ := h.cells _ _ hm
    cases e
    have hx := hsF_at l h.ok (j / 32) _ hm (j % 32) (by omega)
    have ej : j / 32 * 32 + j % 32 = j := by omega
    rw [ej, hu] at hx
    rw [Addr.add_lit]
    have := c (j % 32) u hx.symm
    rwa [show off + j / 32 * 32 + j % 32 = off + j by omega] at this
theorem OwnN.hsAt {w : World} {v : Value} {n : Nat} {l : List (List UInt8)} (h : OwnN w 40 32 v n (hsF l)) (hn : n = l.length) (hok : ∀ m ∈ l, m.length = 32) : ∃ a cap, v = .slice a n cap ∧ HsAt w a cap l := by
  obtain ⟨a, cap, rfl, ha, h1, h2, h3⟩ := h.form
  refine ⟨a, cap, rfl, by omega, h3, hok, fun j m hj => ?_⟩
  have hjl := (List.getElem?_eq_some_iff.1 hj).1
  rcases h.2 with ⟨_, q⟩ | ⟨g, cap', cur, e, _⟩
  · omega
  · cases e
    refine ⟨g, 0, rfl, fun i v hi => ?_⟩
    have hi18 : i < 32 := by have := (List.getElem?_eq_some_iff.1 hi).1; rwa [List.length_map, hok m (List.mem_of_getElem? hj)] at this
    have := World.ownsRow.cells h (g := g) rfl (j * 32 + i) v (by rw [hsF_at l hok j m hj i hi18]; exact hi)
    simpa [Addr.add_lit] using this
end Go.Proofs.YtaoigopjfelgpaaGreatDoor


