/- A block of zeros worked into the words, for the kernel. -/
import Derived.Test.YtnlcngcilojnkaaDoorS6
import Derived.Laws.BitsAllLaws
namespace Go.Proofs.YtnlcngcilojnkaaDoor
open Go.RowKit
set_option linter.unusedVariables false

/-- Words as natural numbers, for the kernel. -/
def rotN (p q x : Nat) : Nat := Nat.lor (Nat.div x p) (Nat.mod (Nat.mul x q) 4294967296)
def b1N (x : Nat) : Nat := Nat.xor (Nat.xor (rotN 64 67108864 x) (rotN 2048 2097152 x)) (rotN 33554432 128 x)
def b0N (x : Nat) : Nat := Nat.xor (Nat.xor (rotN 4 1073741824 x) (rotN 8192 524288 x)) (rotN 4194304 1024 x)
def chN (e f g : Nat) : Nat := Nat.xor (Nat.land e f) (Nat.land (Nat.xor 4294967295 e) g)
def majN (a b c : Nat) : Nat := Nat.xor (Nat.xor (Nat.land a b) (Nat.land a c)) (Nat.land b c)
theorem rot_nat (p q x : Nat) (hp : 0 < p) (hx : x < 4294967296) : rotI (p : Int) (q : Int) (x : Int) = (rotN p q x : Nat) ∧ rotN p q x < 4294967296 := by
  have h1 : x / p < 4294967296 := Nat.lt_of_le_of_lt (Nat.div_le_self x p) hx
  have h2 : x * q % 4294967296 < 4294967296 := Nat.mod_lt _ (by omega)
  refine ⟨?_, Nat.or_lt_two_pow (n := 32) h1 h2⟩
  unfold rotI
  have e1 : (x : Int) / (p : Int) = ((x / p : Nat) : Int) := by simp
  have e2 : (x : Int) * (q : Int) % 4294967296 = ((x * q % 4294967296 : Nat) : Int) := by simp
  rw [e1, e2, u32_or_nat _ _ h1 h2]
  rfl
theorem b1_nat (x : Nat) (hx : x < 4294967296) : big1 (x : Int) = (b1N x : Nat) ∧ b1N x < 4294967296 := by
  have a := rot_nat 64 67108864 x (by omega) hx
  have b := rot_nat 2048 2097152 x (by omega) hx
  have c := rot_nat 33554432 128 x (by omega) hx
  refine ⟨?_, Nat.xor_lt_two_pow (n := 32) (Nat.xor_lt_two_pow (n := 32) a.2 b.2) c.2⟩
  show bits .xor .u32 (bits .xor .u32 (rotI ((64 : Nat) : Int) ((67108864 : Nat) : Int) x) (rotI ((2048 : Nat) : Int) ((2097152 : Nat) : Int) x)) (rotI ((33554432 : Nat) : Int) ((128 : Nat) : Int) x) = _
  rw [a.1, b.1, c.1, u32_xor_nat _ _ a.2 b.2, u32_xor_nat _ _ (Nat.xor_lt_two_pow (n := 32) a.2 b.2) c.2]
  rfl
theorem b0_nat (x : Nat) (hx : x < 4294967296) : big0 (x : Int) = (b0N x : Nat) ∧ b0N x < 4294967296 := by
  have a := rot_nat 4 1073741824 x (by omega) hx
  have b := rot_nat 8192 524288 x (by omega) hx
  have c := rot_nat 4194304 1024 x (by omega) hx
  refine ⟨?_, Nat.xor_lt_two_pow (n := 32) (Nat.xor_lt_two_pow (n := 32) a.2 b.2) c.2⟩
  show bits .xor .u32 (bits .xor .u32 (rotI ((4 : Nat) : Int) ((1073741824 : Nat) : Int) x) (rotI ((8192 : Nat) : Int) ((524288 : Nat) : Int) x)) (rotI ((4194304 : Nat) : Int) ((1024 : Nat) : Int) x) = _
  rw [a.1, b.1, c.1, u32_xor_nat _ _ a.2 b.2, u32_xor_nat _ _ (Nat.xor_lt_two_pow (n := 32) a.2 b.2) c.2]
  rfl
theorem ch_nat (e f g : Nat) (he : e < 4294967296) (hf : f < 4294967296) (hg : g < 4294967296) : ch (e : Int) (f : Int) (g : Int) = (chN e f g : Nat) := by
  have h1 : e &&& f < 4294967296 := Nat.and_lt_two_pow (n := 32) _ hf
  have h2 : 4294967295 ^^^ e < 4294967296 := Nat.xor_lt_two_pow (n := 32) (by omega) he
  have h3 : (4294967295 ^^^ e) &&& g < 4294967296 := Nat.and_lt_two_pow (n := 32) _ hg
  show bits .xor .u32 (bits .and .u32 e f) (bits .and .u32 (bits .xor .u32 ((4294967295 : Nat) : Int) e) g) = _
  rw [u32_and_nat _ _ he hf, u32_xor_nat _ _ (by omega) he, u32_and_nat _ _ h2 hg, u32_xor_nat _ _ h1 h3]
  rfl
theorem maj_nat (e f g : Nat) (he : e < 4294967296) (hf : f < 4294967296) (hg : g < 4294967296) : maj (e : Int) (f : Int) (g : Int) = (majN e f g : Nat) := by
  have h1 : e &&& f < 4294967296 := Nat.and_lt_two_pow (n := 32) _ hf
  have h2 : e &&& g < 4294967296 := Nat.and_lt_two_pow (n := 32) _ hg
  have h3 : f &&& g < 4294967296 := Nat.and_lt_two_pow (n := 32) _ hg
  show bits .xor .u32 (bits .xor .u32 (bits .and .u32 e f) (bits .and .u32 e g)) (bits .and .u32 f g) = _
  rw [u32_and_nat _ _ he hf, u32_and_nat _ _ he hg, u32_and_nat _ _ hf hg, u32_xor_nat _ _ h1 h2, u32_xor_nat _ _ (Nat.xor_lt_two_pow (n := 32) h1 h2) h3]
  rfl
/-- The eight words. -/
structure StN where
  a : Nat
  b : Nat
  c : Nat
  d : Nat
  e : Nat
  f : Nat
  g : Nat
  h : Nat
def StN.st (s : StN) : St := ⟨s.a, s.b, s.c, s.d, s.e, s.f, s.g, s.h⟩
def StN.list (s : StN) : List Int := [(s.a : Int), s.b, s.c, s.d, s.e, s.f, s.g, s.h]
structure StN.Ok (s : StN) : Prop where
  a : s.a < 4294967296
  b : s.b < 4294967296
  c : s.c < 4294967296
  d : s.d < 4294967296
  e : s.e < 4294967296
  f : s.f < 4294967296
  g : s.g < 4294967296
  h : s.h < 4294967296
def tN (s : StN) (k : Nat) : Nat := Nat.add (Nat.add (Nat.add s.h (b1N s.e)) (chN s.e s.f s.g)) k
def stepN (s : StN) (k : Nat) : StN := ⟨Nat.mod (Nat.add (Nat.add (tN s k) (b0N s.a)) (majN s.a s.b s.c)) 4294967296, s.a, s.b, s.c, Nat.mod (Nat.add s.d (tN s k)) 4294967296, s.e, s.f, s.g⟩
theorem step_nat (s : StN) (hs : s.Ok) (k : Nat) : step s.st (k : Int) 0 = (stepN s k).st ∧ (stepN s k).Ok := by
  refine ⟨?_, ⟨Nat.mod_lt _ (by omega), hs.a, hs.b, hs.c, Nat.mod_lt _ (by omega), hs.e, hs.f, hs.g⟩⟩
  have e1 := (b1_nat s.e hs.e).1
  have e0 := (b0_nat s.a hs.a).1
  have ec := ch_nat s.e s.f s.g hs.e hs.f hs.g
  have em := maj_nat s.a s.b s.c hs.a hs.b hs.c
  unfold step StN.st stepN tN
  simp only [e1, e0, ec, em]
  generalize b1N s.e = x1
  generalize b0N s.a = x0
  generalize chN s.e s.f s.g = xc
  generalize majN s.a s.b s.c = xm
  congr 1
theorem fold_nat : ∀ (l : List Nat) (s : StN), s.Ok → (l.foldl (fun t (k : Nat) => step t (k : Int) 0) s.st = (l.foldl stepN s).st ∧ (l.foldl stepN s).Ok)
  | [], s, h => ⟨rfl, h⟩
  | k :: l, s, h => by
    have q := step_nat s h k
    simp only [List.foldl_cons]
    rw [q.1]
    exact fold_nat l _ q.2
def ksN : List Nat := [1116352408, 1899447441, 3049323471, 3921009573, 961987163, 1508970993, 2453635748, 2870763221, 3624381080, 310598401, 607225278, 1426881987, 1925078388, 2162078206, 2614888103, 3248222580, 3835390401, 4022224774, 264347078, 604807628, 770255983, 1249150122, 1555081692, 1996064986, 2554220882, 2821834349, 2952996808, 3210313671, 3336571891, 3584528711, 113926993, 338241895, 666307205, 773529912, 1294757372, 1396182291, 1695183700, 1986661051, 2177026350, 2456956037, 2730485921, 2820302411, 3259730800, 3345764771, 3516065817, 3600352804, 4094571909, 275423344, 430227734, 506948616, 659060556, 883997877, 958139571, 1322822218, 1537002063, 1747873779, 1955562222, 2024104815, 2227730452, 2361852424, 2428436474, 2756734187, 3204031479, 3329325298]
theorem ks_nat : ks = ksN.map (fun (k : Nat) => (k : Int)) := by decide +kernel
theorem rounds_fold (pl : List Int) (hz : ∀ k, pl.getD k 0 = 0) (s : St) : ∀ n, n ≤ 64 → rounds pl s n = (ksN.take n).foldl (fun t (k : Nat) => step t (k : Int) 0) s
  | 0, _ => by simp [rounds]
  | n + 1, h => by
    rw [rounds, hz, rounds_fold pl hz s n (by omega)]
    have hl : n < ksN.length := by have : ksN.length = 64 := rfl; omega
    rw [List.take_succ_eq_append_getElem hl, List.foldl_append]
    simp only [List.foldl_cons, List.foldl_nil]
    congr 1
    rw [ks_nat]
    simp [List.getD, hl]
def zb : List UInt8 := List.replicate 64 0
theorem plan_zero : plan zb 48 = List.replicate 64 0 := by decide +kernel
theorem plan_zero' (k : Nat) : (plan zb 48).getD k 0 = 0 := by
  rw [plan_zero]
  simp only [List.getD, List.getElem?_replicate]
  split <;> rfl
def addN (s t : StN) : StN := ⟨Nat.mod (Nat.add s.a t.a) 4294967296, Nat.mod (Nat.add s.b t.b) 4294967296, Nat.mod (Nat.add s.c t.c) 4294967296, Nat.mod (Nat.add s.d t.d) 4294967296, Nat.mod (Nat.add s.e t.e) 4294967296, Nat.mod (Nat.add s.f t.f) 4294967296, Nat.mod (Nat.add s.g t.g) 4294967296, Nat.mod (Nat.add s.h t.h) 4294967296⟩
def zeroN (s : StN) : StN := addN s (ksN.foldl stepN s)
theorem addN_ok (s t : StN) : (addN s t).Ok := ⟨Nat.mod_lt _ (by omega), Nat.mod_lt _ (by omega), Nat.mod_lt _ (by omega), Nat.mod_lt _ (by omega), Nat.mod_lt _ (by omega), Nat.mod_lt _ (by omega), Nat.mod_lt _ (by omega), Nat.mod_lt _ (by omega)⟩
theorem zero_nat (s : StN) (hs : s.Ok) : compress s.list zb = (zeroN s).list := by
  have h := (fold_nat ksN s hs).1
  have h2 : rounds (plan zb 48) (St.of s.list) 64 = (ksN.foldl stepN s).st := by
    rw [rounds_fold _ plan_zero' _ 64 (by omega), ← h]
    rfl
  unfold compress zeroN
  rw [h2]
  generalize ksN.foldl stepN s = t
  simp only [List.range, List.range.loop, List.map_cons, List.map_nil]
  simp [StN.list, StN.st, St.list, addN]
  exact ⟨rfl, rfl, rfl, rfl, rfl, rfl, rfl, rfl⟩
/-- So often. -/
def itC : Nat → List Int → List Int
  | 0, s => s
  | n + 1, s => itC n (compress s zb)
theorem itC_add : ∀ (m n : Nat) (s : List Int), itC (m + n) s = itC n (itC m s)
  | 0, n, s => by simp [itC]
  | m + 1, n, s => by rw [show m + 1 + n = (m + n) + 1 by omega, itC, itC, itC_add m n]
theorem itC_succ : ∀ (n : Nat) (s : List Int), itC (n + 1) s = compress (itC n s) zb
  | 0, s => rfl
  | n + 1, s => by rw [itC, itC_succ n, itC]
def force {α : Type} (n : Nat) (f : Nat → α) : α := Nat.casesOn n (f 0) (fun m => f (Nat.succ m))
theorem force_eq {α : Type} (n : Nat) (f : Nat → α) : force n f = f n := by cases n <;> rfl
abbrev KT := Nat → Nat → Nat → Nat → Nat → Nat → Nat → Nat → List Nat
def goK : List Nat → Nat → Nat → Nat → Nat → Nat → Nat → Nat → Nat → KT → List Nat :=
  fun l => List.foldr (fun kk ih a b c d e f g h k =>
    force (Nat.add (Nat.add (Nat.add h (b1N e)) (chN e f g)) kk) fun t =>
    force (Nat.mod (Nat.add (Nat.add t (b0N a)) (majN a b c)) 4294967296) fun a' =>
    force (Nat.mod (Nat.add d t) 4294967296) fun e' => ih a' a b c e' e f g k) (fun a b c d e f g h k => k a b c d e f g h) l
def itK : Nat → KT
  | 0, a, b, c, d, e, f, g, h => [a, b, c, d, e, f, g, h]
  | n + 1, a, b, c, d, e, f, g, h => goK ksN a b c d e f g h fun a' b' c' d' e' f' g' h' =>
   force (Nat.mod (Nat.add a a') 4294967296) fun a => force (Nat.mod (Nat.add b b') 4294967296) fun b => force (Nat.mod (Nat.add c c') 4294967296) fun c => force (Nat.mod (Nat.add d d') 4294967296) fun d =>
   force (Nat.mod (Nat.add e e') 4294967296) fun e => force (Nat.mod (Nat.add f f') 4294967296) fun f => force (Nat.mod (Nat.add g g') 4294967296) fun g => force (Nat.mod (Nat.add h h') 4294967296) fun h => itK n a b c d e f g h
theorem goK_cons (kk : Nat) (l : List Nat) (a b c d e f g h : Nat) (k : KT) : goK (kk :: l) a b c d e f g h k = (force (Nat.add (Nat.add (Nat.add h (b1N e)) (chN e f g)) kk) fun t =>
    force (Nat.mod (Nat.add (Nat.add t (b0N a)) (majN a b c)) 4294967296) fun a' =>
    force (Nat.mod (Nat.add d t) 4294967296) fun e' => goK l a' a b c e' e f g k) := rfl
theorem goK_eq : ∀ (l : List Nat) (s : StN) (k : KT), goK l s.a s.b s.c s.d s.e s.f s.g s.h k = k (l.foldl stepN s).a (l.foldl stepN s).b (l.foldl stepN s).c (l.foldl stepN s).d (l.foldl stepN s).e (l.foldl stepN s).f (l.foldl stepN s).g (l.foldl stepN s).h
  | [], s, k => rfl
  | kk :: l, s, k => by
    have ih := goK_eq l (stepN s kk) k
    rw [List.foldl_cons, ← ih]
    rw [goK_cons, force_eq, force_eq, force_eq]
    rfl
theorem itK_one (n a b c d e f g h : Nat) : itK (n + 1) a b c d e f g h = goK ksN a b c d e f g h fun a' b' c' d' e' f' g' h' =>
   force (Nat.mod (Nat.add a a') 4294967296) fun a => force (Nat.mod (Nat.add b b') 4294967296) fun b => force (Nat.mod (Nat.add c c') 4294967296) fun c => force (Nat.mod (Nat.add d d') 4294967296) fun d =>
   force (Nat.mod (Nat.add e e') 4294967296) fun e => force (Nat.mod (Nat.add f f') 4294967296) fun f => force (Nat.mod (Nat.add g g') 4294967296) fun g => force (Nat.mod (Nat.add h h') 4294967296) fun h => itK n a b c d e f g h := rfl
theorem itK_succ (n : Nat) (s : StN) : itK (n + 1) s.a s.b s.c s.d s.e s.f s.g s.h = itK n (zeroN s).a (zeroN s).b (zeroN s).c (zeroN s).d (zeroN s).e (zeroN s).f (zeroN s).g (zeroN s).h := by
  rw [itK_one, goK_eq]
  simp only [force_eq, zeroN]
  generalize ksN.foldl stepN s = t
  rfl
theorem itK_eq : ∀ (n : Nat) (s : StN), s.Ok → itC n s.list = (itK n s.a s.b s.c s.d s.e s.f s.g s.h).map (fun (x : Nat) => (x : Int))
  | 0, s, hs => rfl
  | n + 1, s, hs => by
    rw [itK_succ, itC, zero_nat s hs]
    exact itK_eq n _ (addN_ok _ _)
/-- So many blocks of zeros lead from these words to those. -/
theorem it_chunk (n a b c d e f g h : Nat) (ok : StN.Ok ⟨a, b, c, d, e, f, g, h⟩) (r : List Nat) (hr : itK n a b c d e f g h = r) : itC n [(a : Int), b, c, d, e, f, g, h] = r.map (fun (x : Nat) => (x : Int)) := by
  rw [← hr]
  exact itK_eq n ⟨a, b, c, d, e, f, g, h⟩ ok
def LW (a b c d e f g h : Nat) : List Int := [(a : Int), b, c, d, e, f, g, h]
end Go.Proofs.YtnlcngcilojnkaaDoor
