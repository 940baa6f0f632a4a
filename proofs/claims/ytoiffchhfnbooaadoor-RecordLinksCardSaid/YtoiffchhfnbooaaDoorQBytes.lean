/-
  Words on slices of bytes: what a slice of bytes holds, kept over what leaves its block as it lay. Nothing here speaks of a program.
-/
import Derived.Below
import Derived.Deep.MidRow
import Derived.Deep.Draws
import Derived.WalkKit
import Derived.Lib.Hide
import Derived.Laws.BitsAllLaws
import Derived.Test.YtoiffchhfnbooaaDoorProg
import Derived.Laws.Externs
import Derived.Shelf.Bits.Mul64
import Derived.Laws.MakeOwn
import Derived.OwnWalk
import Derived.Maps.AppendAt
import Derived.Laws.CopyOwn
namespace Go.Proofs.YtoiffchhfnbooaaDoor
set_option linter.unusedVariables false
set_option linter.unusedSimpArgs false
set_option linter.unusedVariables false
set_option linter.unusedSimpArgs false
open Go.RowKit

theorem hide {p : Prop} (h : p) : Hid p := h
theorem ret_int {k : IntKind} {a b : Int} (h : a = b) : Ending.returned (.int k a) = .returned (.int k b) := by rw [h]

/-- the byte at place i (no name that the walk opens) -/
def byteAt (l : List Nat) (i : Nat) : Nat := l.getD i 0
/-- the slice (A, n) holds the bytes l, in a block below B -/
def Bytes (w : World) (B : Nat) (A : Option Addr) (n : Nat) (l : List Nat) : Prop :=
  l.length = n ∧ (∀ x ∈ l, x < 256) ∧ (0 < n → ∃ b o, A = some ⟨b, o, none⟩ ∧ b < B ∧ ∀ i, i < n → w.cell? ⟨b, o + i, none⟩ = some (.int .u8 ((byteAt l i : Nat) : Int)))

section
variable {w w' : World} {B B' n : Nat} {A : Option Addr} {l : List Nat}
theorem Bytes.nil : Bytes w B A 0 [] := ⟨rfl, by simp, fun h => absurd h (Nat.lt_irrefl _)⟩
theorem Bytes.keep (h : Bytes w B A n l) (hk : ∀ p : Addr, p.block < B → w'.cell? p = w.cell? p) : Bytes w' B A n l :=
  ⟨h.1, h.2.1, fun hn => by
    obtain ⟨b, o, e, hb, hc⟩ := h.2.2 hn
    exact ⟨b, o, e, hb, fun i hi => (hk _ hb).trans (hc i hi)⟩⟩
theorem Bytes.more (h : Bytes w B A n l) (hB : B ≤ B') : Bytes w B' A n l :=
  ⟨h.1, h.2.1, fun hn => by
    obtain ⟨b, o, e, hb, hc⟩ := h.2.2 hn
    exact ⟨b, o, e, by omega, hc⟩⟩
theorem Bytes.below (h : Bytes w B A n l) (hb : Below B' w w') (hB : B ≤ B') : Bytes w' B A n l := h.keep fun _ hp => hb.cell (by omega)
theorem Bytes.later (h : Bytes w w.heap.size A n l) (hb : Below w.heap.size w w') : Bytes w' w'.heap.size A n l := (h.below hb (Nat.le_refl _)).more hb.size
theorem Bytes.drewN (h : Bytes w B A n l) (k : Nat) : Bytes (w.drewN k) B A n l := h
theorem Bytes.drew (h : Bytes w B A n l) : Bytes w.drew B A n l := h
theorem Bytes.lt (h : Bytes w B A n l) (i : Nat) : byteAt l i < 256 := by
  unfold byteAt
  rw [List.getD_eq_getElem?_getD]
  cases hx : l[i]? with
  | none => simp
  | some x => exact h.2.1 x (List.mem_of_getElem? hx)
theorem Bytes.at_ {k : Nat} (h : Bytes w B A n l) (hk : k < n) : ∃ b o, A = some ⟨b, o, none⟩ ∧ b < B ∧ w.cell? ⟨b, o + k, none⟩ = some (.int .u8 ((byteAt l k : Nat) : Int)) := by
  obtain ⟨b, o, e, hb, hc⟩ := h.2.2 (by omega)
  exact ⟨b, o, e, hb, hc k hk⟩
end
def textAt (ls : List (List Nat)) (i : Nat) : List Nat := ls.getD i []
/-- a slice of slices of bytes: (A, n) holds the texts ls, all in blocks below B -/
def Bss (w : World) (B : Nat) (A : Option Addr) (n : Nat) (ls : List (List Nat)) : Prop :=
  ls.length = n ∧ (0 < n → ∃ b o, A = some ⟨b, o, none⟩ ∧ b < B ∧ ∀ i, i < n → ∃ A' n' c', w.cell? ⟨b, o + i, none⟩ = some (.slice A' n' c') ∧ n' ≤ 140737488355328 ∧ Bytes w B A' n' (textAt ls i))
section
variable {w w' : World} {B B' n : Nat} {A : Option Addr} {ls : List (List Nat)}
theorem Bss.nil : Bss w B A 0 [] := ⟨rfl, fun h => absurd h (Nat.lt_irrefl _)⟩
theorem Bss.keep (h : Bss w B A n ls) (hk : ∀ p : Addr, p.block < B → w'.cell? p = w.cell? p) : Bss w' B A n ls :=
  ⟨h.1, fun hn => by
    obtain ⟨b, o, e, hb, hc⟩ := h.2 hn
    refine ⟨b, o, e, hb, fun i hi => ?_⟩
    obtain ⟨A', n', c', h1, h2, h3⟩ := hc i hi
    exact ⟨A', n', c', (hk _ hb).trans h1, h2, h3.keep hk⟩⟩
theorem Bss.more (h : Bss w B A n ls) (hB : B ≤ B') : Bss w B' A n ls :=
  ⟨h.1, fun hn => by
    obtain ⟨b, o, e, hb, hc⟩ := h.2 hn
    refine ⟨b, o, e, by omega, fun i hi => ?_⟩
    obtain ⟨A', n', c', h1, h2, h3⟩ := hc i hi
    exact ⟨A', n', c', h1, h2, h3.more hB⟩⟩
theorem Bss.below (h : Bss w B A n ls) (hb : Below B' w w') (hB : B ≤ B') : Bss w' B A n ls := h.keep fun _ hp => hb.cell (by omega)
theorem Bss.later (h : Bss w w.heap.size A n ls) (hb : Below w.heap.size w w') : Bss w' w'.heap.size A n ls := (h.below hb (Nat.le_refl _)).more hb.size
theorem Bss.at_ {k : Nat} (h : Bss w B A n ls) (hk : k < n) : ∃ b o A' n' c', A = some ⟨b, o, none⟩ ∧ b < B ∧ w.cell? ⟨b, o + k, none⟩ = some (.slice A' n' c') ∧ n' ≤ 140737488355328 ∧ Bytes w B A' n' (textAt ls k) := by
  obtain ⟨b, o, e, hb, hc⟩ := h.2 (by omega)
  obtain ⟨A', n', c', h1, h2, h3⟩ := hc k hk
  exact ⟨b, o, A', n', c', e, hb, h1, h2, h3⟩
/-- one slice alone in a new block -/
theorem Bss.one (w : World) {B : Nat} {A : Option Addr} {n c : Nat} {l : List Nat} (h : Bytes w B A n l) (hn : n ≤ 140737488355328) (hB : B ≤ w.heap.size) (t : TypeId) :
    Bss (w.alloc (.cells #[.slice A n c] t)) (w.heap.size + 1) (some ⟨w.heap.size, 0, none⟩) 1 [l] := by
  refine ⟨rfl, fun _ => ⟨w.heap.size, 0, rfl, by omega, fun i hi => ?_⟩⟩
  obtain rfl : i = 0 := by omega
  refine ⟨A, n, c, ?_, hn, ((h.keep (fun p hp => World.cell?_alloc_lt w _ p (by omega))).more (by omega))⟩
  rw [cell_of_row _ _ _ _ _ _ (heap_alloc_new w _)]
  rfl
end
theorem flatten_take_snoc (ls : List (List Nat)) (k : Nat) (h : k < ls.length) : (ls.take (k + 1)).flatten = (ls.take k).flatten ++ textAt ls k := by
  unfold textAt
  rw [List.take_succ_eq_append_getElem h, List.flatten_append, List.flatten_singleton]
  simp only [List.getD_eq_getElem?_getD, List.getElem?_eq_getElem h, Option.getD_some]
theorem take_snoc' (l : List Nat) (k : Nat) (h : k < l.length) : l.take (k + 1) = l.take k ++ [byteAt l k] := by
  unfold byteAt
  rw [List.take_succ_eq_append_getElem h]
  simp [h]
end Go.Proofs.YtoiffchhfnbooaaDoor

/-
  SHA-256 on plain numbers. Nothing here speaks of a program.
-/
namespace Go.Proofs.YtoiffchhfnbooaaDoor
set_option linter.unusedVariables false
set_option linter.unusedSimpArgs false
set_option linter.unusedVariables false
set_option linter.unusedSimpArgs false

/-- rotated to the right -/
def rotN (x n : Nat) : Nat := x / 2 ^ n + x % 2 ^ n * 2 ^ (32 - n)
theorem pow_split {n : Nat} (hn : n ≤ 32) : 2 ^ (32 - n) * 2 ^ n = 4294967296 := by
  rw [← Nat.pow_add, show 32 - n + n = 32 by omega]
theorem shl_mod {x n : Nat} (hn : n ≤ 32) : x * 2 ^ (32 - n) % 4294967296 = x % 2 ^ n * 2 ^ (32 - n) := by
  rw [← pow_split hn, Nat.mul_comm (2 ^ (32 - n)) (2 ^ n), Nat.mul_mod_mul_right]
theorem shr_lt {x n : Nat} (hx : x < 4294967296) (hn : n ≤ 32) : x / 2 ^ n < 2 ^ (32 - n) := by
  rw [Nat.div_lt_iff_lt_mul (Nat.pow_pos (by omega)), pow_split hn]; exact hx
theorem rotN_lt {x n : Nat} (hx : x < 4294967296) (hn : n ≤ 32) : rotN x n < 4294967296 := by
  have h1 := shr_lt hx hn
  have h2 : x % 2 ^ n < 2 ^ n := Nat.mod_lt _ (Nat.pow_pos (by omega))
  have h3 : (x % 2 ^ n + 1) * 2 ^ (32 - n) ≤ 2 ^ n * 2 ^ (32 - n) := Nat.mul_le_mul_right _ h2
  rw [Nat.mul_comm (2 ^ n), pow_split hn, Nat.add_mul, Nat.one_mul] at h3
  unfold rotN
  omega
theorem rotN_or {x n : Nat} (hx : x < 4294967296) (hn : n ≤ 32) : x * 2 ^ (32 - n) % 4294967296 ||| x / 2 ^ n = rotN x n := by
  rw [shl_mod hn, nat_join (32 - n) _ _ (Nat.mul_mod_left _ _) (shr_lt hx hn)]
  unfold rotN
  omega
theorem rotN_sum {x n : Nat} (hx : x < 4294967296) (hn : n ≤ 32) : (x / 2 ^ n + x * 2 ^ (32 - n) % 4294967296) % 4294967296 = rotN x n := by
  rw [shl_mod hn]
  exact Nat.mod_eq_of_lt (rotN_lt hx hn)

def s0N (x : Nat) : Nat := rotN x 7 ^^^ rotN x 18 ^^^ x / 8
def s1N (x : Nat) : Nat := rotN x 17 ^^^ rotN x 19 ^^^ x / 1024
def g0N (x : Nat) : Nat := rotN x 2 ^^^ rotN x 13 ^^^ rotN x 22
def g1N (x : Nat) : Nat := rotN x 6 ^^^ rotN x 11 ^^^ rotN x 25
theorem xor_lt {a b : Nat} (ha : a < 4294967296) (hb : b < 4294967296) : a ^^^ b < 4294967296 := Nat.xor_lt_two_pow (n := 32) ha hb
theorem and_lt {a : Nat} (b : Nat) (ha : a < 4294967296) : a &&& b < 4294967296 := Nat.lt_of_le_of_lt Nat.and_le_left ha
theorem g0N_lt {x : Nat} (h : x < 4294967296) : g0N x < 4294967296 := xor_lt (xor_lt (rotN_lt h (by omega)) (rotN_lt h (by omega))) (rotN_lt h (by omega))
theorem g1N_lt {x : Nat} (h : x < 4294967296) : g1N x < 4294967296 := xor_lt (xor_lt (rotN_lt h (by omega)) (rotN_lt h (by omega))) (rotN_lt h (by omega))
theorem s0N_lt {x : Nat} (h : x < 4294967296) : s0N x < 4294967296 := xor_lt (xor_lt (rotN_lt h (by omega)) (rotN_lt h (by omega))) (by omega)
theorem s1N_lt {x : Nat} (h : x < 4294967296) : s1N x < 4294967296 := xor_lt (xor_lt (rotN_lt h (by omega)) (rotN_lt h (by omega))) (by omega)
def chN (e f g : Nat) : Nat := (e &&& f) ^^^ ((e ^^^ 4294967295) &&& g)
def majN (a b c : Nat) : Nat := (a &&& b) ^^^ (a &&& c) ^^^ (b &&& c)

/-- words of 32 bits -/
def W32 (l : List Nat) : Prop := ∀ x ∈ l, x < 4294967296
theorem W32.lt {l : List Nat} (h : W32 l) (i : Nat) : byteAt l i < 4294967296 := by
  unfold byteAt
  rw [List.getD_eq_getElem?_getD]
  cases hx : l[i]? with
  | none => simp
  | some x => exact h x (List.mem_of_getElem? hx)
theorem W32.set {l : List Nat} (h : W32 l) (i : Nat) {x : Nat} (hx : x < 4294967296) : W32 (l.set i x) := by
  intro y hy
  rcases List.mem_or_eq_of_mem_set hy with hy | rfl
  · exact h y hy
  · exact hx

/-- the block's words, byte after byte -/
def fillN (l : List Nat) : Nat → List Nat
  | 0 => List.replicate 64 0
  | k + 1 => (fillN l k).set (k / 4) ((byteAt (fillN l k) (k / 4) * 256 + byteAt l k) % 4294967296)
theorem fillN_length (l : List Nat) : ∀ k, (fillN l k).length = 64
  | 0 => by simp [fillN]
  | k + 1 => by rw [fillN, List.length_set, fillN_length l k]
theorem fillN_lt (l : List Nat) : ∀ k, W32 (fillN l k)
  | 0 => fun x hx => by rw [(List.mem_replicate.1 hx).2]; omega
  | k + 1 => (fillN_lt l k).set _ (Nat.mod_lt _ (by omega))
def nextN (ws : List Nat) (t : Nat) : Nat := (((s1N (byteAt ws (t - 2)) + byteAt ws (t - 7)) % 4294967296 + s0N (byteAt ws (t - 15))) % 4294967296 + byteAt ws (t - 16)) % 4294967296
def extN (ws : List Nat) : Nat → List Nat
  | 0 => ws
  | k + 1 => (extN ws k).set (16 + k) (nextN (extN ws k) (16 + k))
theorem extN_length (l : List Nat) : ∀ k, (extN l k).length = l.length
  | 0 => rfl
  | k + 1 => by rw [extN, List.length_set, extN_length l k]
theorem extN_lt {l : List Nat} (h : W32 l) : ∀ k, W32 (extN l k)
  | 0 => h
  | k + 1 => (extN_lt h k).set _ (Nat.mod_lt _ (by omega))
/-- W0 to W63 -/
def schedN (l : List Nat) : List Nat := extN (fillN l 64) 48
theorem schedN_length (l : List Nat) : (schedN l).length = 64 := by rw [schedN, extN_length, fillN_length]
theorem schedN_lt (l : List Nat) : W32 (schedN l) := extN_lt (fillN_lt l 64) 48

/-- the eight words a to h -/
structure Wd where
  a : Nat
  b : Nat
  c : Nat
  d : Nat
  e : Nat
  f : Nat
  g : Nat
  h : Nat
def Wd.list (s : Wd) : List Nat := [s.a, s.b, s.c, s.d, s.e, s.f, s.g, s.h]
structure Wd.Ok (s : Wd) : Prop where
  a : s.a < 4294967296
  b : s.b < 4294967296
  c : s.c < 4294967296
  d : s.d < 4294967296
  e : s.e < 4294967296
  f : s.f < 4294967296
  g : s.g < 4294967296
  h : s.h < 4294967296
def t1N (s : Wd) (k w : Nat) : Nat := ((((s.h + g1N s.e) % 4294967296 + chN s.e s.f s.g) % 4294967296 + k) % 4294967296 + w) % 4294967296
def t2N (s : Wd) : Nat := (g0N s.a + majN s.a s.b s.c) % 4294967296
def roundN (s : Wd) (k w : Nat) : Wd := ⟨(t1N s k w + t2N s) % 4294967296, s.a, s.b, s.c, (s.d + t1N s k w) % 4294967296, s.e, s.f, s.g⟩
theorem roundN_ok {s : Wd} (h : s.Ok) (k w : Nat) : (roundN s k w).Ok := ⟨Nat.mod_lt _ (by omega), h.a, h.b, h.c, Nat.mod_lt _ (by omega), h.e, h.f, h.g⟩
def roundsN (ks ws : List Nat) (s : Wd) : Nat → Wd
  | 0 => s
  | n + 1 => roundN (roundsN ks ws s n) (byteAt ks n) (byteAt ws n)
theorem roundsN_ok (ks ws : List Nat) {s : Wd} (h : s.Ok) : ∀ n, (roundsN ks ws s n).Ok
  | 0 => h
  | n + 1 => roundN_ok (roundsN_ok ks ws h n) _ _
def sumN (s v : Wd) : Wd := ⟨(s.a + v.a) % 4294967296, (s.b + v.b) % 4294967296, (s.c + v.c) % 4294967296, (s.d + v.d) % 4294967296, (s.e + v.e) % 4294967296, (s.f + v.f) % 4294967296, (s.g + v.g) % 4294967296, (s.h + v.h) % 4294967296⟩
/-- a block's step -/
def stepN (ks : List Nat) (s : Wd) (block : List Nat) : Wd := sumN s (roundsN ks (schedN block) s 64)
theorem stepN_ok (ks : List Nat) (s : Wd) (block : List Nat) : (stepN ks s block).Ok := by
  constructor <;> exact Nat.mod_lt _ (by omega)
theorem chN_lt {e f g : Nat} (he : e < 4294967296) : chN e f g < 4294967296 := xor_lt (and_lt _ he) (and_lt _ (xor_lt he (by omega)))
theorem majN_lt {a b c : Nat} (ha : a < 4294967296) (hb : b < 4294967296) : majN a b c < 4294967296 := xor_lt (xor_lt (and_lt _ ha) (and_lt _ ha)) (and_lt _ hb)
/-- the first eight words and the 64 constants -/
def firstL : List Nat := [1779033703, 3144134277, 1013904242, 2773480762, 1359893119, 2600822924, 528734635, 1541459225]
def kL : List Nat := [1116352408, 1899447441, 3049323471, 3921009573, 961987163, 1508970993, 2453635748, 2870763221, 3624381080, 310598401, 607225278, 1426881987, 1925078388, 2162078206, 2614888103, 3248222580, 3835390401, 4022224774, 264347078, 604807628, 770255983, 1249150122, 1555081692, 1996064986, 2554220882, 2821834349, 2952996808, 3210313671, 3336571891, 3584528711, 113926993, 338241895, 666307205, 773529912, 1294757372, 1396182291, 1695183700, 1986661051, 2177026350, 2456956037, 2730485921, 2820302411, 3259730800, 3345764771, 3516065817, 3600352804, 4094571909, 275423344, 430227734, 506948616, 659060556, 883997877, 958139571, 1322822218, 1537002063, 1747873779, 1955562222, 2024104815, 2227730452, 2361852424, 2428436474, 2756734187, 3204031479, 3329325298]
def first0 : Wd := ⟨1779033703, 3144134277, 1013904242, 2773480762, 1359893119, 2600822924, 528734635, 1541459225⟩
theorem firstL_eq : firstL = first0.list := rfl
theorem first0_ok : first0.Ok := by constructor <;> decide
theorem kL_lt : W32 kL := by unfold W32; decide
theorem kL_length : kL.length = 64 := rfl
theorem firstL_length : firstL.length = 8 := rfl
theorem fillN_zero (l : List Nat) : fillN l 0 = List.replicate 64 0 := rfl
theorem fillN_succ (l : List Nat) (k : Nat) : fillN l (k + 1) = (fillN l k).set (k / 4) ((byteAt (fillN l k) (k / 4) * 256 + byteAt l k) % 4294967296) := rfl
theorem extN_zero (ws : List Nat) : extN ws 0 = ws := rfl
theorem extN_succ (ws : List Nat) (k : Nat) : extN ws (k + 1) = (extN ws k).set (16 + k) (nextN (extN ws k) (16 + k)) := rfl
theorem roundsN_zero (ks ws : List Nat) (s : Wd) : roundsN ks ws s 0 = s := rfl
theorem roundsN_succ (ks ws : List Nat) (s : Wd) (n : Nat) : roundsN ks ws s (n + 1) = roundN (roundsN ks ws s n) (byteAt ks n) (byteAt ws n) := rfl
theorem schedN_eq (l : List Nat) : extN (fillN l 64) 48 = schedN l := rfl
/-- the words' bytes, the highest of each first -/
def flatN (ws : List Nat) (i : Nat) : Nat := byteAt ws (i / 4) / 2 ^ (24 - 8 * (i % 4)) % 256
def flN (ws : List Nat) : Nat → List Nat
  | 0 => List.replicate 32 0
  | k + 1 => (flN ws k).set k (flatN ws k)
theorem flN_zero (ws : List Nat) : flN ws 0 = List.replicate 32 0 := rfl
theorem flN_succ (ws : List Nat) (k : Nat) : flN ws (k + 1) = (flN ws k).set k (flatN ws k) := rfl
theorem flN_length (ws : List Nat) : ∀ k, (flN ws k).length = 32
  | 0 => by simp [flN]
  | k + 1 => by rw [flN, List.length_set, flN_length ws k]
theorem flatN_lt (ws : List Nat) (i : Nat) : flatN ws i < 256 := Nat.mod_lt _ (by omega)
theorem flN_lt (ws : List Nat) : ∀ k, ∀ x ∈ flN ws k, x < 256
  | 0 => fun x hx => by rw [flN] at hx; rw [(List.mem_replicate.1 hx).2]; omega
  | k + 1 => fun x hx => by
    rw [flN] at hx
    rcases List.mem_or_eq_of_mem_set hx with hx | rfl
    · exact flN_lt ws k x hx
    · exact flatN_lt ws k
theorem flN_at (ws : List Nat) : ∀ k i, i < 32 → byteAt (flN ws k) i = if i < k then flatN ws i else 0
  | 0, i, hi => by
    unfold byteAt
    rw [flN, List.getD_eq_getElem?_getD, List.getElem?_replicate, if_pos hi, if_neg (by omega)]
    rfl
  | k + 1, i, hi => by
    have h := flN_at ws k i hi
    unfold byteAt at h ⊢
    rw [flN, List.getD_eq_getElem?_getD, List.getElem?_set]
    rw [List.getD_eq_getElem?_getD] at h
    by_cases he : k = i
    · subst he
      rw [if_pos rfl, if_pos (by rw [flN_length]; exact hi), if_pos (by omega)]
      rfl
    · rw [if_neg he, h]
      by_cases hk : i < k
      · rw [if_pos hk, if_pos (by omega)]
      · rw [if_neg hk, if_neg (by omega)]
attribute [irreducible] kL flN fillN extN roundsN schedN
end Go.Proofs.YtoiffchhfnbooaaDoor

/-
  Contracts over the document's own answer for layer 4: products of 64 bits, prime numbers, the roots' bits.
-/
namespace Go.Proofs.YtoiffchhfnbooaaDoor
set_option linter.unusedVariables false
set_option linter.unusedSimpArgs false
set_option linter.unusedVariables false
set_option linter.unusedSimpArgs false
open Go.RowKit

/-- is a number prime? enough for numbers up to 400 -/
def noDiv (n : Nat) : Bool := (List.range 23).all fun j => decide (j < 2) || decide (n < j * j) || decide (n % j ≠ 0)
def primeB (n : Nat) : Bool := noDiv n && decide (2 ≤ n)
theorem noDiv_of {n d : Nat} (hn : n ≤ 400) (hd : n < d * d) (h : ∀ j, 2 ≤ j → j < d → j * j ≤ n → n % j ≠ 0) : noDiv n = true := by
  unfold noDiv
  rw [List.all_eq_true]
  intro j _
  by_cases h2 : j < 2
  · simp [h2]
  · by_cases h3 : n < j * j
    · simp [h3]
    · have : n % j ≠ 0 := by
        refine h j (by omega) ?_ (by omega)
        rcases Nat.lt_or_ge j d with h' | h'
        · exact h'
        · exact absurd (Nat.mul_le_mul h' h') (by omega)
      simp [this]
theorem noDiv_no {n d : Nat} (h2 : 2 ≤ d) (hd : d < 23) (h : d * d ≤ n) (h0 : n % d = 0) : noDiv n = false := by
  unfold noDiv
  rw [List.all_eq_false]
  exact ⟨d, List.mem_range.2 hd, by simp [h0]; omega⟩
theorem sq_le (d n : Nat) (hn : n ≤ 400) (h : d * d ≤ n) : d < 21 := by
  rcases Nat.lt_or_ge d 21 with h' | h'
  · exact h'
  · have := Nat.mul_le_mul h' h'; omega
theorem prime_ret {v : Value} {b c : Bool} (h : c = b) (hv : v = .bool b) : Ending.returned v = .returned (.bool c) := by rw [h, hv]

/-- the roots' bits, the highest first -/
def sqN (p : Nat) : Nat → Nat
  | 0 => 0
  | m + 1 => if (sqN p m + 2 ^ (36 - m)) * (sqN p m + 2 ^ (36 - m)) ≤ p * 18446744073709551616 then sqN p m + 2 ^ (36 - m) else sqN p m
theorem sqN_succ (p m : Nat) : sqN p (m + 1) = if (sqN p m + 2 ^ (36 - m)) * (sqN p m + 2 ^ (36 - m)) ≤ p * 18446744073709551616 then sqN p m + 2 ^ (36 - m) else sqN p m := rfl
def cuN (p : Nat) : Nat → Nat
  | 0 => 0
  | m + 1 => if (cuN p m + 2 ^ (36 - m)) * (cuN p m + 2 ^ (36 - m)) * (cuN p m + 2 ^ (36 - m)) ≤ p * 79228162514264337593543950336 then cuN p m + 2 ^ (36 - m) else cuN p m
theorem cuN_succ (p m : Nat) : cuN p (m + 1) = if (cuN p m + 2 ^ (36 - m)) * (cuN p m + 2 ^ (36 - m)) * (cuN p m + 2 ^ (36 - m)) ≤ p * 79228162514264337593543950336 then cuN p m + 2 ^ (36 - m) else cuN p m := rfl
theorem sqN_le (p : Nat) : ∀ m, m ≤ 37 → sqN p m + 2 ^ (37 - m) ≤ 2 ^ 37
  | 0, _ => by simp [sqN]
  | m + 1, h => by
    have h1 := sqN_le p m (by omega)
    have e : 2 ^ (37 - m) = 2 ^ (36 - m) * 2 := by rw [← Nat.pow_succ]; congr 1; omega
    have e2 : 37 - (m + 1) = 36 - m := by omega
    rw [sqN_succ, e2]
    split <;> omega
theorem cuN_le (p : Nat) : ∀ m, m ≤ 37 → cuN p m + 2 ^ (37 - m) ≤ 2 ^ 37
  | 0, _ => by simp [cuN]
  | m + 1, h => by
    have h1 := cuN_le p m (by omega)
    have e : 2 ^ (37 - m) = 2 ^ (36 - m) * 2 := by rw [← Nat.pow_succ]; congr 1; omega
    have e2 : 37 - (m + 1) = 36 - m := by omega
    rw [cuN_succ, e2]
    split <;> omega
theorem sqs : [2, 3, 5, 7, 11, 13, 17, 19].map (fun p => sqN p 37 % 4294967296) = firstL := by decide +kernel
def primesL (p : Nat) : List Nat := (List.range p).filter primeB
theorem cus : (primesL 312).map (fun p => cuN p 37 % 4294967296) = kL := by decide +kernel
attribute [irreducible] sqN cuN primesL
end Go.Proofs.YtoiffchhfnbooaaDoor

/-
  Slices of bytes of a call's own: append of any bytes behind them, a store into them, as steps of a walk. They speak of any program.
-/
namespace Go.Proofs.YtoiffchhfnbooaaDoor
set_option linter.unusedVariables false
set_option linter.unusedSimpArgs false
set_option linter.unusedVariables false
set_option linter.unusedSimpArgs false
open Go.RowKit

/-- the walk stands still at a goal that is heldB -/
theorem holdB {p : Prop} (h : Hid p) : p := h
theorem heldB {p : Prop} (h : p) : Hid p := h

/-- a byte as a cell -/
def bv (x : Nat) : Value := .int .u8 (x : Int)
theorem bv_one (l : List Nat) : ∀ u ∈ l.map bv, u.oneCell' = true := by
  intro u hu
  obtain ⟨x, _, rfl⟩ := List.mem_map.1 hu
  rfl

/-- the slice (A, n, c) is of one's own, from block base on, and holds the bytes l -/
def OwnB (w : World) (base : Nat) (e : TypeId) (A : Option Addr) (n c : Nat) (l : List Nat) : Prop :=
  w.ownsRow base e 1 (.slice A n c) n (l.map bv) ∧ ∀ x ∈ l, x < 256

section
variable {w w' : World} {base n c : Nat} {e : TypeId} {A : Option Addr} {l : List Nat}
theorem OwnB.nil : OwnB w base e none 0 0 [] := ⟨⟨by simp, .inl ⟨rfl, rfl⟩⟩, by simp⟩
theorem OwnB.empty (w : World) (e : TypeId) : OwnB (w.alloc (.cells #[] e)) w.heap.size e (some ⟨w.heap.size, 0, none⟩) 0 0 [] :=
  ⟨⟨by simp, .inr ⟨w.heap.size, 0, #[], rfl, Nat.le_refl _, heap_alloc_new w _, Nat.le_refl _, by unfold maxLen; omega, by simp, by simp⟩⟩, by simp⟩
theorem OwnB.len (h : OwnB w base e A n c l) : l.length = n := by simpa using h.1.1
theorem OwnB.below (h : OwnB w base e A n c l) (hb : Below w.heap.size w w') : OwnB w' base e A n c l := by
  refine ⟨⟨h.1.1, ?_⟩, h.2⟩
  rcases h.1.2 with h0 | ⟨g, cap, cur, hv, hg, hh, r⟩
  · exact .inl h0
  · exact .inr ⟨g, cap, cur, hv, hg, (hb.block g (Array.getElem?_eq_some_iff.1 hh).1).trans hh, r⟩
theorem OwnB.base_le (h : OwnB w base e A n c l) {base' : Nat} (hb : base' ≤ base) : OwnB w base' e A n c l := by
  refine ⟨⟨h.1.1, ?_⟩, h.2⟩
  rcases h.1.2 with h0 | ⟨g, cap, cur, hv, hg, r⟩
  · exact .inl h0
  · exact .inr ⟨g, cap, cur, hv, Nat.le_trans hb hg, r⟩
theorem OwnB.cells (h : OwnB w base e A n c l) (hn : 0 < n) : ∃ g, A = some ⟨g, 0, none⟩ ∧ base ≤ g ∧ g < w.heap.size ∧ (∀ i, w.frozen? ⟨g, i, none⟩ = false) ∧ ∀ i, i < n → w.cell? ⟨g, i, none⟩ = some (.int .u8 ((byteAt l i : Nat) : Int)) := by
  have hlen := h.len
  rcases h.1.2 with ⟨_, h0⟩ | ⟨g, cap, cur, hv, hg, hh, hnc, hcm, hcs, htk⟩
  · omega
  · injection hv with hA _ hc
    subst hA
    refine ⟨g, rfl, hg, (Array.getElem?_eq_some_iff.1 hh).1, fun i => frozen_of_row w g i cur e hh, fun i hi => ?_⟩
    rw [cell_of_row w g i cur e (0, 0) hh]
    have : (cur.toList.take (n * 1))[i]? = (l.map bv)[i]? := by rw [htk]
    rw [List.getElem?_take, if_pos (by omega)] at this
    simp only [Array.getElem?_toList] at this
    rw [this, List.getElem?_map]
    unfold byteAt
    simp [List.getElem?_eq_getElem (show i < l.length by omega), bv]
theorem OwnB.bytes (h : OwnB w base e A n c l) : Bytes w w.heap.size A n l := by
  refine ⟨h.len, h.2, fun hn => ?_⟩
  obtain ⟨g, rfl, _, hl, _, hc⟩ := h.cells hn
  exact ⟨g, 0, rfl, hl, fun i hi => by rw [Nat.zero_add]; exact hc i hi⟩
theorem OwnB.cap (h : OwnB w base e A n c l) : n ≤ c ∧ c ≤ maxLen := by
  rcases h.1.2 with ⟨hv, h0⟩ | ⟨g, cap, cur, hv, hg, hh, hnc, hcm, hcs, htk⟩
  · injection hv with _ _ hc
    subst hc; subst h0
    exact ⟨Nat.le_refl _, by unfold maxLen; omega⟩
  · injection hv with _ _ hc
    subst hc
    exact ⟨hnc, hcm⟩
/-- a store at place i -/
theorem OwnB.put (h : OwnB w base e A n c l) {i : Nat} (_hi : i < n) (x : Nat) (hx : x < 256) {g : Nat} (hA : A = some ⟨g, 0, none⟩) : OwnB (w.setCell ⟨g, i, none⟩ (.int .u8 (x : Int))) base e A n c (l.set i x) := by
  subst hA
  have hlen := h.len
  refine ⟨⟨by simp [hlen], ?_⟩, fun y hy => ?_⟩
  · rcases h.1.2 with ⟨hv, _⟩ | ⟨g', cap, cur, hv, hg, hh, hnc, hcm, hcs, htk⟩
    · cases hv
    · injection hv with hA _ hc
      injection hA with hA
      injection hA with hA
      subst hA; subst hc
      refine .inr ⟨g, c, cur.setIfInBounds i (.int .u8 (x : Int)), rfl, hg, ?_, hnc, hcm, by simpa using hcs, ?_⟩
      · exact heap_setCell_same w g i cur e _ hh
      · rw [Array.toList_setIfInBounds, List.take_set, htk, List.map_set]
        rfl
  · rcases List.mem_or_eq_of_mem_set hy with hy | rfl
    · exact h.2 y hy
    · exact hx
end

section
variable {P : Program}
theorem run_append_bytes {w : World} {base : Nat} {e : TypeId} {A : Option Addr} {n c : Nat} {l : List Nat} (ho : OwnB w base e A n c l) (t ty : TypeId) (ht : P.underlying t = some (.slice e))
    (he : (P.info? e).map (fun i => (i.zero, i.size, i.bytes)) = some (some (.int .u8 0), 1, 1)) {B : Nat} {A' : Option Addr} {m c' : Nat} {l' : List Nat} (hb : Bytes w B A' m l') (hnm : n + m ≤ 1000000000) (hbase : base ≤ w.heap.size) :
    ∃ A2 c2 w', (Builtin.append_ #[t, t] ty #[.slice A n c, .slice A' m c']).run P w = .ok (.slice A2 (n + m) c2) w' ∧ OwnB w' base e A2 (n + m) c2 (l ++ l') ∧ Below base w w' ∧ w.grownBy w' (Value.slice A n c).ownBlock := by
  obtain ⟨i, hi, hz, hs, hby⟩ := info_parts he
  have hall : ∀ x ∈ l ++ l', x < 256 := fun x hx => (List.mem_append.1 hx).elim (ho.2 x) (hb.2.1 x)
  cases A' with
  | none =>
    have hm : m = 0 := by
      rcases Nat.eq_zero_or_pos m with h | h
      · exact h
      · obtain ⟨b, o, h', _⟩ := hb.2.2 h; cases h'
    subst hm
    have hl' : l' = [] := List.eq_nil_of_length_eq_zero hb.1
    subst hl'
    refine ⟨A, c, w, ?_, by simpa using ho, Below.refl _ _, World.grownBy.refl w _⟩
    have hc := ho.cap.1
    cases A with
    | none => 
      rcases ho.1.2 with ⟨hv, h0⟩ | ⟨g, cap, cur, hv, _⟩
      · injection hv with _ _ hc
        subst hc; subst h0
        simp [Builtin.append_, run_underlying ht, sizeOf, typeInfo, hi, Builtin.lenOf, Builtin.firstCells]
      · cases hv
    | some a => simp [Builtin.append_, run_underlying ht, sizeOf, typeInfo, hi, Builtin.lenOf, Builtin.firstCells, hc, storeCells]
  | some ad =>
    have hnews : ∀ (j : Nat) (u : Value), (l'.map bv)[j]? = some u → w.cell? (ad.add j) = some u := by
      intro j u hu
      rw [List.getElem?_map] at hu
      have hj : j < l'.length := by
        rcases Nat.lt_or_ge j l'.length with h | h
        · exact h
        · rw [List.getElem?_eq_none h] at hu; cases hu
      rw [List.getElem?_eq_getElem hj] at hu
      injection hu with hu
      subst hu
      obtain ⟨b, o, h', _, hc⟩ := hb.2.2 (by rw [← hb.1]; omega)
      injection h' with h'
      subst h'
      rw [Addr.add_mid, hc j (by rw [← hb.1]; exact hj)]
      unfold byteAt bv
      simp [List.getElem?_eq_getElem hj]
    obtain ⟨v', w', hrun, h1, h2, _, _⟩ := run_append_own_at (P := P) w base t ty e i (.int .u8 0) 1 1 ht hi hz hs hby rfl (by omega) (.slice A n c) n (l.map bv) ho.1 ad m c' (l'.map bv) (by simp [hb.1]) hnews (bv_one _) (by unfold maxLen; omega) (by omega) hbase
    have hsh : ∃ A2 c2, v' = .slice A2 (n + m) c2 := by
      rcases h1.2 with ⟨rfl, h0⟩ | ⟨g, cap, cur, rfl, _⟩
      · rw [h0]; exact ⟨_, _, rfl⟩
      · exact ⟨_, _, rfl⟩
    obtain ⟨A2, c2, rfl⟩ := hsh
    refine ⟨A2, c2, w', hrun, ⟨by rw [List.map_append]; exact h1, hall⟩, (Below.refl _ _).grown h2 hbase (fun k hk => ?_), h2⟩
    exact (ho.1.lt k hk).1

theorem wpList_append_bytes {ops : Array Oper} {rest : List Oper} {o : Oper} {a : Act} {w : World} {Q : Exit → Act → World → Prop} (hgd : o.guard = none) (s x : Operand) (t : TypeId)
    (ho : o.op = .call { callee := .builtin .append, args := #[s, x], argTypes := #[t, t] }) {e : TypeId} (ht : P.underlying t = some (.slice e))
    (he : (P.info? e).map (fun i => (i.zero, i.size, i.bytes)) = some (some (.int .u8 0), 1, 1))
    (base : Nat) (A : Option Addr) (n c : Nat) (l : List Nat) (hs : a.eval s = .slice A n c) (hown : OwnB w base e A n c l)
    (B : Nat) (A' : Option Addr) (m c' : Nat) (l' : List Nat) (hx : a.eval x = .slice A' m c') (hb : Bytes w B A' m l') (hnm : n + m ≤ 1000000000) (hbase : base ≤ w.heap.size)
    (h : ∀ A2 c2 w', OwnB w' base e A2 (n + m) c2 (l ++ l') → Below base w w' → w.grownBy w' (Value.slice A n c).ownBlock → wpList P ops Q rest (a.put o.dst (.slice A2 (n + m) c2)) w') : wpList P ops Q (o :: rest) a w :=
  wpList_plain hgd fun _ hK => by
    obtain ⟨A2, c2, w', hrun, h2, h3, h4⟩ := run_append_bytes (P := P) hown t o.type ht he (c' := c') hb hnm hbase
    unfold Oper.wp execOp
    simp only [ho, resolve, invoke, builtin, Sem.run_bind, Sem.run_pure, Result.andThen_ok, List.map_toArray, List.map_cons, List.map_nil, hs, hx, hrun]
    exact hK _ _ (h A2 c2 w' h2 h3 h4)
end
end Go.Proofs.YtoiffchhfnbooaaDoor

/-
  Contracts over the document's own answer for layer 4: the bits of square and cube roots.
-/
namespace Go.Proofs.YtoiffchhfnbooaaDoor
set_option linter.unusedVariables false
set_option linter.unusedSimpArgs false
set_option linter.unusedVariables false
set_option linter.unusedSimpArgs false
open Go.RowKit

theorem sq_hi_lt {y p : Nat} (h : y * y / 18446744073709551616 < p) : y * y ≤ p * 18446744073709551616 := by omega
theorem ret_mod {a b : Int} (h : a = b) : Ending.returned (.int .u32 a) = .returned (.int .u32 b) := by rw [h]

/-- a third power, in words of 64 bits -/
theorem cube_words {y hi lo b a : Nat} (h1 : y * y = 18446744073709551616 * hi + lo) (h2 : lo * y = 18446744073709551616 * b + a) : y * y * y = 18446744073709551616 * (b + hi * y) + a := by
  rw [h1, Nat.add_mul, h2, Nat.mul_assoc, Nat.mul_add]
  omega

end Go.Proofs.YtoiffchhfnbooaaDoor

/-
  Values of many cells in blocks that are known whole: a new variable, a store of all, a load of all, one cell. They speak of any program.
-/
namespace Go.Proofs.YtoiffchhfnbooaaDoor
set_option linter.unusedVariables false
set_option linter.unusedSimpArgs false
set_option linter.unusedVariables false
set_option linter.unusedSimpArgs false
open Go.RowKit

/-- block b is just the cells cs, none frozen -/
def Bk (w : World) (b : Nat) (t : TypeId) (cs : Array Value) : Prop := w.heap[b]? = some (.cells cs t (0, 0))
theorem Bk.below {w w' : World} {b B : Nat} {t : TypeId} {cs : Array Value} (h : Bk w b t cs) (hb : Below B w w') (hl : b < B) : Bk w' b t cs := (hb.block b hl).trans h
theorem Bk.cell {w : World} {b : Nat} {t : TypeId} {cs : Array Value} (h : Bk w b t cs) (i : Nat) : w.cell? ⟨b, i, none⟩ = cs[i]? := by
  unfold Bk at h
  simp [World.cell?, h]
theorem Bk.frozen {w : World} {b : Nat} {t : TypeId} {cs : Array Value} (h : Bk w b t cs) (i : Nat) : w.frozen? ⟨b, i, none⟩ = false := by
  unfold Bk at h
  simp [World.frozen?, h]
theorem Bk.new (w : World) (t : TypeId) (cs : Array Value) : Bk (w.alloc (.cells cs t)) w.heap.size t cs := heap_alloc_new w _
theorem Bk.lt {w : World} {b : Nat} {t : TypeId} {cs : Array Value} (h : Bk w b t cs) : b < w.heap.size := (Array.getElem?_eq_some_iff.1 h).1
theorem Bk.alloc {w : World} {b : Nat} {t : TypeId} {cs : Array Value} (h : Bk w b t cs) (o : Obj) : Bk (w.alloc o) b t cs := (Below.heap_alloc w o b h.lt).trans h
theorem Bk.drew {w : World} {b : Nat} {t : TypeId} {cs : Array Value} (h : Bk w b t cs) : Bk w.drew b t cs := h
theorem Bk.far {w : World} {b : Nat} {t : TypeId} {cs : Array Value} (h : Bk w b t cs) {p : Addr} (hp : b ≠ p.block) (u : Value) : Bk (w.setCell p u) b t cs := (Below.heap_setCell w p u b hp).trans h
theorem Bk.put {w : World} {b : Nat} {t : TypeId} {cs : Array Value} (h : Bk w b t cs) (i : Nat) (u : Value) : Bk (w.setCell ⟨b, i, none⟩ u) b t (cs.setIfInBounds i u) := by
  unfold Bk at h ⊢
  simp [World.setCell, Array.getElem?_modify, h]
theorem Bk.new' (w : World) (b : Nat) (t : TypeId) (cs : Array Value) (h : b = w.heap.size) : Bk (w.alloc (.cells cs t)) b t cs := by subst h; exact Bk.new w t cs
theorem Bk.new2 (w : World) (o : Obj) (t : TypeId) (cs : Array Value) : Bk ((w.alloc o).alloc (.cells cs t)) (w.heap.size + 1) t cs := by
  have := Bk.new (w.alloc o) t cs
  rwa [World.size_alloc] at this
theorem Bk.new3 (w : World) (o o2 : Obj) (t : TypeId) (cs : Array Value) : Bk (((w.alloc o).alloc o2).alloc (.cells cs t)) (w.heap.size + 1 + 1) t cs := by
  have := Bk.new2 (w.alloc o) o2 t cs
  rwa [World.size_alloc] at this
theorem Bk.new4 (w : World) (o o2 o3 : Obj) (t : TypeId) (cs : Array Value) : Bk ((((w.alloc o).alloc o2).alloc o3).alloc (.cells cs t)) (w.heap.size + 1 + 1 + 1) t cs := by
  have := Bk.new3 (w.alloc o) o2 o3 t cs
  rwa [World.size_alloc] at this
theorem Bk.four {w : World} {b : Nat} {t : TypeId} {v0 v1 v2 v3 : Value} (h : Bk w b t #[v0, v1, v2, v3]) :
    (w.cell? ⟨b, 0, none⟩ = some v0 ∧ w.cell? ⟨b, 1, none⟩ = some v1 ∧ w.cell? ⟨b, 2, none⟩ = some v2 ∧ w.cell? ⟨b, 3, none⟩ = some v3) ∧
    w.frozen? ⟨b, 0, none⟩ = false ∧ w.frozen? ⟨b, 1, none⟩ = false ∧ w.frozen? ⟨b, 2, none⟩ = false ∧ w.frozen? ⟨b, 3, none⟩ = false :=
  ⟨⟨h.cell 0, h.cell 1, h.cell 2, h.cell 3⟩, h.frozen 0, h.frozen 1, h.frozen 2, h.frozen 3⟩
theorem setRow_other' (w : World) (g k : Nat) (cs : Array Value) (h : k ≠ g) : (w.setRow g cs).heap[k]? = w.heap[k]? := Go.setRow_other w g k cs h

section
variable {P : Program}
theorem wp_value {o : Oper} {a : Act} {w w' : World} {K : Act → World → Prop} {Q : Exit → Act → World → Prop} {v : Value}
    (h : (execOp a.eval o).run P w = .ok (.value v) w') (hK : K (a.put o.dst v) w') : o.wp P a w K Q := by
  unfold Oper.wp
  simp only [h]
  exact hK
theorem wp_skip {o : Oper} {a : Act} {w w' : World} {K : Act → World → Prop} {Q : Exit → Act → World → Prop}
    (h : (execOp a.eval o).run P w = .ok .skip w') (hK : K (a.put o.dst undef) w') : o.wp P a w K Q := by
  unfold Oper.wp
  simp only [h]
  exact hK

/-- a new variable whose zero value is the cells z -/
theorem wpList_alloc_to {ops : Array Oper} {rest : List Oper} {o : Oper} {a : Act} {w : World} {Q : Exit → Act → World → Prop} (hgd : o.guard = none) (ty : TypeId) (ho : o.op = .alloc ty) (z : Array Value)
    (hz : (P.info? ty).map (·.zero) = some (some (.agg z))) (h : wpList P ops Q rest (a.put o.dst (.pointer (some ⟨w.heap.size, 0, none⟩))) (w.alloc (.cells z ty))) : wpList P ops Q (o :: rest) a w :=
  wpList_plain hgd fun _ hK => by
    cases hq : P.info? ty with
    | none => simp [hq] at hz
    | some i =>
      have hz' : i.zero = some (.agg z) := by simpa [hq] using hz
      refine wp_value (v := .pointer (some ⟨w.heap.size, 0, none⟩)) (w' := w.alloc (.cells z ty)) ?_ (hK _ _ h)
      unfold execOp
      simp only [ho]
      simp [Instr.alloc, zeroValue, typeInfo, hq, hz', newVar, Value.cells, newRow]

/-- a composite value -/
theorem wpList_build_to {ops : Array Oper} {rest : List Oper} {o : Oper} {a : Act} {w : World} {Q : Exit → Act → World → Prop} (hgd : o.guard = none) (t : TypeId) (parts : Array (Nat × Operand)) (ho : o.op = .build t parts)
    (vals : List (Nat × Value)) (hv : (parts.toList.map fun p => (p.1, a.eval p.2)) = vals) (cells : Array Value) (hb : P.built t vals = some cells)
    (h : wpList P ops Q rest (a.put o.dst (.agg cells)) w) : wpList P ops Q (o :: rest) a w :=
  wpList_plain hgd fun _ hK => by
    refine wp_value (v := .agg cells) (w' := w) ?_ (hK _ _ h)
    unfold execOp
    simp only [ho, Sem.run_bind, run_build w t _ cells (by rw [Array.toList_map]; exact hv ▸ hb), Result.andThen_ok]
    rfl

/-- another block lies as it lay; a store into a block of one's own leaves older memory as it was -/
theorem Bk.setRow_other {w : World} {b g : Nat} {t : TypeId} {cs : Array Value} (h : Bk w b t cs) (hne : b ≠ g) (cs' : Array Value) : Bk (w.setRow g cs') b t cs := (YtoiffchhfnbooaaDoor.setRow_other' w g b cs' hne).trans h
theorem Bk.setRow_same {w : World} {g : Nat} {t : TypeId} {cs : Array Value} (h : Bk w g t cs) (cs' : Array Value) : Bk (w.setRow g cs') g t cs' := setRow_heap w g cs cs' t (0, 0) h

/-- a value of many cells goes into a block that is known whole -/
theorem wpList_store_wide {ops : Array Oper} {rest : List Oper} {o : Oper} {a : Act} {w : World} {Q : Exit → Act → World → Prop} (hgd : o.guard = none) (ty : TypeId) (x y : Operand) (ho : o.op = .store ty x y)
    (g off : Nat) (cells : Array Value) (hx : a.eval x = .pointer (some ⟨g, off, none⟩)) (hy : a.eval y = .agg cells)
    (t : TypeId) (cur : Array Value) (hg : Bk w g t cur) (hfit : off + cells.size ≤ cur.size) (hi : (P.info? ty).map (·.size) = some cells.size) (h1 : ∀ v ∈ cells.toList, v.oneCell' = true)
    (h : ∀ w', Hid (w' = w.setRow g (splice cur.toList off cells.toList).toArray) → wpList P ops Q rest (a.put o.dst undef) w') : wpList P ops Q (o :: rest) a w :=
  wpList_plain hgd fun _ hK => by
    refine wp_skip (w' := w.setRow g (splice cur.toList off cells.toList).toArray) ?_ (hK _ _ (h _ rfl))
    have := run_storeCells_at P g off t cells.toList 0 cur w hg (by simpa using hfit) h1
    simp only [Nat.add_zero, List.append_assoc] at this
    cases hq : P.info? ty with
    | none => simp [hq] at hi
    | some i =>
      have hs : cells.size = i.size := by simp [hq] at hi; omega
      unfold execOp
      simp only [ho, hx, hy, Instr.storeAt, Instr.sureAddr, Sem.run_bind, Sem.run_pure, Result.andThen_ok]
      simp [storeVar, sizeOf, typeInfo, hq, Value.cells, hs, this, splice]


theorem splice_all {l m : List Value} (h : m.length = l.length) : splice l 0 m = m := by
  unfold splice
  rw [List.take_zero, List.nil_append, Nat.zero_add, List.drop_eq_nil_of_le (by omega), List.append_nil]
theorem setRow_all {w : World} {g : Nat} {cs ds : Array Value} (h : ds.size = cs.size) : w.setRow g (splice cs.toList 0 ds.toList).toArray = w.setRow g ds := by
  rw [splice_all (by rw [Array.length_toList, Array.length_toList, h]), Array.toArray_toList]
theorem below_setRow {B : Nat} {w w' : World} (h : Below B w w') {g : Nat} (hg : B ≤ g) (cs : Array Value) : Below B w (w'.setRow g cs) :=
  h.trans ⟨rfl, rfl, rfl, by simp, fun k hk => YtoiffchhfnbooaaDoor.setRow_other' w' g k cs (by omega)⟩
theorem results_cell {fn : Func} {p : Tmp} {t : TypeId} (h : fn.results = #[.cell p t]) {tmps : Array Value} {w : World} {a : Addr} {v : Value} (hp : tmps.getD p undef = .pointer (some a)) (hl : (loadVar t a).run P w = .ok v w) :
    (results fn tmps).run P w = .ok v w := by
  have hp' : tmps[p]?.getD undef = .pointer (some a) := by simpa using hp
  simp [results, h, hp', asAddr, hl]
theorem Bk.load {w : World} {b : Nat} {t : TypeId} {cs : Array Value} (h : Bk w b t cs) {ty : TypeId} {d : TypeDesc} (hu : P.underlying ty = some d) (hd : d.isRow = true) (hi : (P.info? ty).map (·.size) = some cs.size) :
    (loadVar ty ⟨b, 0, none⟩).run P w = .ok (.agg cs) w := by
  rw [run_loadVar_mid w b 0 ty cs.toList d (fun i v hv => by rw [Nat.zero_add, h.cell, ← Array.getElem?_toList]; exact hv) hu hd (by rw [Array.length_toList]; exact hi), Array.toArray_toList]
theorem Bk.range {w : World} {b : Nat} {t : TypeId} {cs : Array Value} (h : Bk w b t cs) : w.rangeAt b 0 cs.toList := fun i v hv => by
  rw [Nat.zero_add, h.cell, ← Array.getElem?_toList]; exact hv
end
end Go.Proofs.YtoiffchhfnbooaaDoor

/-
  Contracts over package sha: rotating and mixing of words; the block's words.
-/
namespace Go.Proofs.YtoiffchhfnbooaaDoor
set_option linter.unusedVariables false
set_option linter.unusedSimpArgs false
set_option linter.unusedVariables false
set_option linter.unusedSimpArgs false
open Go.RowKit

theorem rot_and (n : Nat) (hn : 0 < n) (hn2 : n < 32) : bits .and .u64 (IntKind.u64.wrap (-(n : Int))) 31 = ((32 - n : Nat) : Int) := by
  have e : IntKind.u64.wrap (-(n : Int)) = ((18446744073709551616 - n : Nat) : Int) := by rw [IntKind.wrap_u64]; omega
  rw [e]
  have := u64_and_nat (18446744073709551616 - n) 31 (by omega) (by omega)
  rw [nat_mask5] at this
  rw [show (31 : Int) = ((31 : Nat) : Int) from rfl, this]
  congr 1
  omega
theorem u32_rot {x n : Nat} (hx : x < 4294967296) (hn : n ≤ 32) : bits .or .u32 ((x : Int) * 2 ^ (32 - n) % 4294967296) ((x : Int) / 2 ^ n) = ((rotN x n : Nat) : Int) := by
  have e1 : ((x * 2 ^ (32 - n) % 4294967296 : Nat) : Int) = (x : Int) * 2 ^ (32 - n) % 4294967296 := by rw [Int.natCast_emod, Int.natCast_mul, Int.natCast_pow]; rfl
  have e2 : ((x / 2 ^ n : Nat) : Int) = (x : Int) / 2 ^ n := by rw [Int.natCast_ediv, Int.natCast_pow]; rfl
  rw [← rotN_or hx hn, ← u32_or_nat _ _ (Nat.mod_lt _ (by omega)) (Nat.lt_of_le_of_lt (Nat.div_le_self _ _) hx), e1, e2]
set_option maxHeartbeats 400000 in
theorem rotl_any (x n : Nat) (w : World) (hx : x < 4294967296) (hn : 0 < n) (hn2 : n < 32) : Calls Tryd.prog 68 #[.int .u32 (x : Int), .int .i64 (-(n : Int))] w fun e w' => e = .returned (.int .u32 ((rotN x n : Nat) : Int)) ∧ w = w' := by
  have ha := rot_and n hn hn2
  have HR := hide (u32_rot hx (show n ≤ 32 by omega))
  obtain ⟨m, hm⟩ : ∃ m, m = 32 - n := ⟨_, rfl⟩
  rw [← hm] at ha HR
  have hm1 : 0 < m := by omega
  have hm2 : m < 32 := by omega
  have HM := hide (show 32 - m = n by omega)
  clear hm
  go_enter Tryd.func68, Tryd.ntmps68
  go_wp2
  go_ret
  exact ⟨ret_int (by rw [HM.out]; exact HR.out), rfl⟩
set_option maxHeartbeats 400000 in
theorem rotated_any (x n : Nat) (w : World) (hx : x < 4294967296) (hn : 0 < n) (hn2 : n < 32) : Calls Tryd.prog 62 #[.int .u32 (x : Int), .int .i64 (n : Int)] w fun e w' => e = .returned (.int .u32 ((rotN x n : Nat) : Int)) ∧ w = w' := by
  go_enter Tryd.func62, Tryd.ntmps62
  go_wp2_with fail
  refine (rotl_any x n _ hx hn hn2).mono ?_
  rintro e w' ⟨rfl, rfl⟩
  go_wp2
  go_ret
  exact ⟨rfl, rfl⟩
set_option maxHeartbeats 400000 in
theorem great0_any (x : Nat) (w : World) (hx : x < 4294967296) : Calls Tryd.prog 52 #[.int .u32 (x : Int)] w fun e w' => e = .returned (.int .u32 ((g0N x : Nat) : Int)) ∧ w = w' := by
  have h1 := rotN_lt (n := 2) hx (by omega)
  have h2 := rotN_lt (n := 13) hx (by omega)
  have h3 := rotN_lt (n := 22) hx (by omega)
  have e1 := u32_xor_nat _ _ h1 h2
  have e2 := u32_xor_nat _ _ (xor_lt h1 h2) h3
  go_enter Tryd.func52, Tryd.ntmps52
  go_wp2_with fail
  refine (rotated_any x 2 _ hx (by omega) (by omega)).mono ?_
  rintro e w' ⟨rfl, rfl⟩
  go_wp2_with fail
  refine (rotated_any x 13 _ hx (by omega) (by omega)).mono ?_
  rintro e w' ⟨rfl, rfl⟩
  go_wp2_with fail
  refine (rotated_any x 22 _ hx (by omega) (by omega)).mono ?_
  rintro e w' ⟨rfl, rfl⟩
  go_wp2
  go_ret
  exact ⟨rfl, rfl⟩
set_option maxHeartbeats 400000 in
theorem great1_any (x : Nat) (w : World) (hx : x < 4294967296) : Calls Tryd.prog 51 #[.int .u32 (x : Int)] w fun e w' => e = .returned (.int .u32 ((g1N x : Nat) : Int)) ∧ w = w' := by
  have h1 := rotN_lt (n := 6) hx (by omega)
  have h2 := rotN_lt (n := 11) hx (by omega)
  have h3 := rotN_lt (n := 25) hx (by omega)
  have e1 := u32_xor_nat _ _ h1 h2
  have e2 := u32_xor_nat _ _ (xor_lt h1 h2) h3
  go_enter Tryd.func51, Tryd.ntmps51
  go_wp2_with fail
  refine (rotated_any x 6 _ hx (by omega) (by omega)).mono ?_
  rintro e w' ⟨rfl, rfl⟩
  go_wp2_with fail
  refine (rotated_any x 11 _ hx (by omega) (by omega)).mono ?_
  rintro e w' ⟨rfl, rfl⟩
  go_wp2_with fail
  refine (rotated_any x 25 _ hx (by omega) (by omega)).mono ?_
  rintro e w' ⟨rfl, rfl⟩
  go_wp2
  go_ret
  exact ⟨rfl, rfl⟩
set_option maxHeartbeats 400000 in
theorem small0_any (x : Nat) (w : World) (hx : x < 4294967296) : Calls Tryd.prog 61 #[.int .u32 (x : Int)] w fun e w' => e = .returned (.int .u32 ((s0N x : Nat) : Int)) ∧ w = w' := by
  have h1 := rotN_lt (n := 7) hx (by omega)
  have h2 := rotN_lt (n := 18) hx (by omega)
  have e1 := u32_xor_nat _ _ h1 h2
  have e2 := hide (u32_xor_nat (rotN x 7 ^^^ rotN x 18) (x / 8) (xor_lt h1 h2) (by omega))
  go_enter Tryd.func61, Tryd.ntmps61
  go_wp2_with fail
  refine (rotated_any x 7 _ hx (by omega) (by omega)).mono ?_
  rintro e w' ⟨rfl, rfl⟩
  go_wp2_with fail
  refine (rotated_any x 18 _ hx (by omega) (by omega)).mono ?_
  rintro e w' ⟨rfl, rfl⟩
  go_wp2
  go_ret
  exact ⟨ret_int e2.out, rfl⟩
set_option maxHeartbeats 400000 in
theorem small1_any (x : Nat) (w : World) (hx : x < 4294967296) : Calls Tryd.prog 60 #[.int .u32 (x : Int)] w fun e w' => e = .returned (.int .u32 ((s1N x : Nat) : Int)) ∧ w = w' := by
  have h1 := rotN_lt (n := 17) hx (by omega)
  have h2 := rotN_lt (n := 19) hx (by omega)
  have e1 := u32_xor_nat _ _ h1 h2
  have e2 := hide (u32_xor_nat (rotN x 17 ^^^ rotN x 19) (x / 1024) (xor_lt h1 h2) (by omega))
  go_enter Tryd.func60, Tryd.ntmps60
  go_wp2_with fail
  refine (rotated_any x 17 _ hx (by omega) (by omega)).mono ?_
  rintro e w' ⟨rfl, rfl⟩
  go_wp2_with fail
  refine (rotated_any x 19 _ hx (by omega) (by omega)).mono ?_
  rintro e w' ⟨rfl, rfl⟩
  go_wp2
  go_ret
  exact ⟨ret_int e2.out, rfl⟩
end Go.Proofs.YtoiffchhfnbooaaDoor
