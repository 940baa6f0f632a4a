/-
  Words on slices of bytes: what a slice of bytes holds, kept over what leaves its block as it lay. Nothing here speaks of a program.
-/
import Derived.Below
import Derived.Deep.MidRow
import Derived.Deep.Draws
import Derived.WalkKit
import Derived.Lib.Hide
import Derived.Laws.BitsAllLaws
import Derived.Test.YtoiffchhfnbooaaGreatDoorProg
import Derived.Laws.Externs
import Derived.Shelf.Bits.Mul64
import Derived.Laws.MakeOwn
import Derived.OwnWalk
import Derived.Maps.AppendAt
namespace Go.Proofs.YtoiffchhfnbooaaGreatDoor
set_option linter.unusedVariables false
set_option linter.unusedSimpArgs false
set_option linter.unusedVariables false
set_option linter.unusedSimpArgs false
open Go.RowKit

theorem hide {p : Prop} (h : p) : Hid p := h
theorem ret_int {k : IntKind} {a b : Int} (h : a = b) : Ending.returned (.int k a) = .returned (.int k b) := by rw [h]

/-- the byte at place i (no name that the walk opens) -/
def byteAt (l : List Nat) (i : Nat) : Nat := l.getD i 0
/-- the slice (A, n) holds the bytes l, in a block below B -/
def Bytes (w : World) (B : Nat) (A : Option Addr) (n : Nat) (l : List Nat) : Prop :=
  l.length = n ∧ (∀ x ∈ l, x < 256) ∧ (0 < n → ∃ b o, A = some ⟨b, o, none⟩ ∧ b < B ∧ ∀ i, i < n → w.cell? ⟨b, o + i, none⟩ = some (.int .u8 ((byteAt l i : Nat) : Int)))

section
variable {w w' : World} {B B' n : Nat} {A : Option Addr} {l : List Nat}
theorem Bytes.nil : Bytes w B A 0 [] := ⟨rfl, by simp, fun h => absurd h (Nat.lt_irrefl _)⟩
theorem Bytes.keep (h : Bytes w B A n l) (hk : ∀ p : Addr, p.block < B → w'.cell? p = w.cell? p) : Bytes w' B A n l :=
  ⟨h.1, h.2.1, fun hn => by
    obtain ⟨b, o, e, hb, hc⟩ := h.2.2 hn
    exact ⟨b, o, e, hb, fun i hi => (hk _ hb).trans (hc i hi)⟩⟩
theorem Bytes.more (h : Bytes w B A n l) (hB : B ≤ B') : Bytes w B' A n l :=
  ⟨h.1, h.2.1, fun hn => by
    obtain ⟨b, o, e, hb, hc⟩ := h.2.2 hn
    exact ⟨b, o, e, by omega, hc⟩⟩
theorem Bytes.below (h : Bytes w B A n l) (hb : Below B' w w') (hB : B ≤ B') : Bytes w' B A n l := h.keep fun _ hp => hb.cell (by omega)
theorem Bytes.later (h : Bytes w w.heap.size A n l) (hb : Below w.heap.size w w') : Bytes w' w'.heap.size A n l := (h.below hb (Nat.le_refl _)).more hb.size
theorem Bytes.drewN (h : Bytes w B A n l) (k : Nat) : Bytes (w.drewN k) B A n l := h
theorem Bytes.drew (h : Bytes w B A n l) : Bytes w.drew B A n l := h
theorem Bytes.lt (h : Bytes w B A n l) (i : Nat) : byteAt l i < 256 := by
  unfold byteAt
  rw [List.getD_eq_getElem?_getD]
  cases hx : l[i]? with
  | none => simp
  | some x => exact h.2.1 x (List.mem_of_getElem? hx)
theorem Bytes.at_ {k : Nat} (h : Bytes w B A n l) (hk : k < n) : ∃ b o, A = some ⟨b, o, none⟩ ∧ b < B ∧ w.cell? ⟨b, o + k, none⟩ = some (.int .u8 ((byteAt l k : Nat) : Int)) := by
  obtain ⟨b, o, e, hb, hc⟩ := h.2.2 (by omega)
  exact ⟨b, o, e, hb, hc k hk⟩
end
def textAt (ls : List (List Nat)) (i : Nat) : List Nat := ls.getD i []
/-- a slice of slices of bytes: (A, n) holds the texts ls, all in blocks below B -/
def Bss (w : World) (B : Nat) (A : Option Addr) (n : Nat) (ls : List (List Nat)) : Prop :=
  ls.length = n ∧ (0 < n → ∃ b o, A = some ⟨b, o, none⟩ ∧ b < B ∧ ∀ i, i < n → ∃ A' n' c', w.cell? ⟨b, o + i, none⟩ = some (.slice A' n' c') ∧ n' ≤ 140737488355328 ∧ Bytes w B A' n' (textAt ls i))
section
variable {w w' : World} {B B' n : Nat} {A : Option Addr} {ls : List (List Nat)}
theorem Bss.nil : Bss w B A 0 [] := ⟨rfl, fun h => absurd h (Nat.lt_irrefl _)⟩
theorem Bss.keep (h : Bss w B A n ls) (hk : ∀ p : Addr, p.block < B → w'.cell? p = w.cell? p) : Bss w' B A n ls :=
  ⟨h.1, fun hn => by
    obtain ⟨b, o, e, hb, hc⟩ := h.2 hn
    refine ⟨b, o, e, hb, fun i hi => ?_⟩
    obtain ⟨A', n', c', h1, h2, h3⟩ := hc i hi
    exact ⟨A', n', c', (hk _ hb).trans h1, h2, h3.keep hk⟩⟩
theorem Bss.more (h : Bss w B A n ls) (hB : B ≤ B') : Bss w B' A n ls :=
  ⟨h.1, fun hn => by
    obtain ⟨b, o, e, hb, hc⟩ := h.2 hn
    refine ⟨b, o, e, by omega, fun i hi => ?_⟩
    obtain ⟨A', n', c', h1, h2, h3⟩ := hc i hi
    exact ⟨A', n', c', h1, h2, h3.more hB⟩⟩
theorem Bss.below (h : Bss w B A n ls) (hb : Below B' w w') (hB : B ≤ B') : Bss w' B A n ls := h.keep fun _ hp => hb.cell (by omega)
theorem Bss.later (h : Bss w w.heap.size A n ls) (hb : Below w.heap.size w w') : Bss w' w'.heap.size A n ls := (h.below hb (Nat.le_refl _)).more hb.size
theorem Bss.at_ {k : Nat} (h : Bss w B A n ls) (hk : k < n) : ∃ b o A' n' c', A = some ⟨b, o, none⟩ ∧ b < B ∧ w.cell? ⟨b, o + k, none⟩ = some (.slice A' n' c') ∧ n' ≤ 140737488355328 ∧ Bytes w B A' n' (textAt ls k) := by
  obtain ⟨b, o, e, hb, hc⟩ := h.2 (by omega)
  obtain ⟨A', n', c', h1, h2, h3⟩ := hc k hk
  exact ⟨b, o, A', n', c', e, hb, h1, h2, h3⟩
/-- one slice alone in a new block -/
theorem Bss.one (w : World) {B : Nat} {A : Option Addr} {n c : Nat} {l : List Nat} (h : Bytes w B A n l) (hn : n ≤ 140737488355328) (hB : B ≤ w.heap.size) (t : TypeId) :
    Bss (w.alloc (.cells #[.slice A n c] t)) (w.heap.size + 1) (some ⟨w.heap.size, 0, none⟩) 1 [l] := by
  refine ⟨rfl, fun _ => ⟨w.heap.size, 0, rfl, by omega, fun i hi => ?_⟩⟩
  obtain rfl : i = 0 := by omega
  refine ⟨A, n, c, ?_, hn, ((h.keep (fun p hp => World.cell?_alloc_lt w _ p (by omega))).more (by omega))⟩
  rw [cell_of_row _ _ _ _ _ _ (heap_alloc_new w _)]
  rfl
end
theorem flatten_take_snoc (ls : List (List Nat)) (k : Nat) (h : k < ls.length) : (ls.take (k + 1)).flatten = (ls.take k).flatten ++ textAt ls k := by
  unfold textAt
  rw [List.take_succ_eq_append_getElem h, List.flatten_append, List.flatten_singleton]
  simp only [List.getD_eq_getElem?_getD, List.getElem?_eq_getElem h, Option.getD_some]
theorem take_snoc' (l : List Nat) (k : Nat) (h : k < l.length) : l.take (k + 1) = l.take k ++ [byteAt l k] := by
  unfold byteAt
  rw [List.take_succ_eq_append_getElem h]
  simp [h]
end Go.Proofs.YtoiffchhfnbooaaGreatDoor

/-
  SHA-256 on plain numbers. Nothing here speaks of a program.
-/
namespace Go.Proofs.YtoiffchhfnbooaaGreatDoor
set_option linter.unusedVariables false
set_option linter.unusedSimpArgs false
set_option linter.unusedVariables false
set_option linter.unusedSimpArgs false

/-- rotated to the right -/
def rotN (x n : Nat) : Nat := x / 2 ^ n + x % 2 ^ n * 2 ^ (32 - n)
theorem pow_split {n : Nat} (hn : n ≤ 32) : 2 ^ (32 - n) * 2 ^ n = 4294967296 := by
  rw [← Nat.pow_add, show 32 - n + n = 32 by omega]
theorem shl_mod {x n : Nat} (hn : n ≤ 32) : x * 2 ^ (32 - n) % 4294967296 = x % 2 ^ n * 2 ^ (32 - n) := by
  rw [← pow_split hn, Nat.mul_comm (2 ^ (32 - n)) (2 ^ n), Nat.mul_mod_mul_right]
theorem shr_lt {x n : Nat} (hx : x < 4294967296) (hn : n ≤ 32) : x / 2 ^ n < 2 ^ (32 - n) := by
  rw [Nat.div_lt_iff_lt_mul (Nat.pow_pos (by omega)), pow_split hn]; exact hx
theorem rotN_lt {x n : Nat} (hx : x < 4294967296) (hn : n ≤ 32) : rotN x n < 4294967296 := by
  have h1 := shr_lt hx hn
  have h2 : x % 2 ^ n < 2 ^ n := Nat.mod_lt _ (Nat.pow_pos (by omega))
  have h3 : (x % 2 ^ n + 1) * 2 ^ (32 - n) ≤ 2 ^ n * 2 ^ (32 - n) := Nat.mul_le_mul_right _ h2
  rw [Nat.mul_comm (2 ^ n), pow_split hn, Nat.add_mul, Nat.one_mul] at h3
  unfold rotN
  omega
theorem rotN_or {x n : Nat} (hx : x < 4294967296) (hn : n ≤ 32) : x * 2 ^ (32 - n) % 4294967296 ||| x / 2 ^ n = rotN x n := by
  rw [shl_mod hn, nat_join (32 - n) _ _ (Nat.mul_mod_left _ _) (shr_lt hx hn)]
  unfold rotN
  omega
theorem rotN_sum {x n : Nat} (hx : x < 4294967296) (hn : n ≤ 32) : (x / 2 ^ n + x * 2 ^ (32 - n) % 4294967296) % 4294967296 = rotN x n := by
  rw [shl_mod hn]
  exact Nat.mod_eq_of_lt (rotN_lt hx hn)

def s0N (x : Nat) : Nat := rotN x 7 ^^^ rotN x 18 ^^^ x / 8
def s1N (x : Nat) : Nat := rotN x 17 ^^^ rotN x 19 ^^^ x / 1024
def g0N (x : Nat) : Nat := rotN x 2 ^^^ rotN x 13 ^^^ rotN x 22
def g1N (x : Nat) : Nat := rotN x 6 ^^^ rotN x 11 ^^^ rotN x 25
theorem xor_lt {a b : Nat} (ha : a < 4294967296) (hb : b < 4294967296) : a ^^^ b < 4294967296 := Nat.xor_lt_two_pow (n := 32) ha hb
theorem and_lt {a : Nat} (b : Nat) (ha : a < 4294967296) : a &&& b < 4294967296 := Nat.lt_of_le_of_lt Nat.and_le_left ha
theorem g0N_lt {x : Nat} (h : x < 4294967296) : g0N x < 4294967296 := xor_lt (xor_lt (rotN_lt h (by omega)) (rotN_lt h (by omega))) (rotN_lt h (by omega))
theorem g1N_lt {x : Nat} (h : x < 4294967296) : g1N x < 4294967296 := xor_lt (xor_lt (rotN_lt h (by omega)) (rotN_lt h (by omega))) (rotN_lt h (by omega))
theorem s0N_lt {x : Nat} (h : x < 4294967296) : s0N x < 4294967296 := xor_lt (xor_lt (rotN_lt h (by omega)) (rotN_lt h (by omega))) (by omega)
theorem s1N_lt {x : Nat} (h : x < 4294967296) : s1N x < 4294967296 := xor_lt (xor_lt (rotN_lt h (by omega)) (rotN_lt h (by omega))) (by omega)
def chN (e f g : Nat) : Nat := (e &&& f) ^^^ ((e ^^^ 4294967295) &&& g)
def majN (a b c : Nat) : Nat := (a &&& b) ^^^ (a &&& c) ^^^ (b &&& c)

/-- words of 32 bits -/
def W32 (l : List Nat) : Prop := ∀ x ∈ l, x < 4294967296
theorem W32.lt {l : List Nat} (h : W32 l) (i : Nat) : byteAt l i < 4294967296 := by
  unfold byteAt
  rw [List.getD_eq_getElem?_getD]
  cases hx : l[i]? with
  | none => simp
  | some x => exact h x (List.mem_of_getElem? hx)
theorem W32.set {l : List Nat} (h : W32 l) (i : Nat) {x : Nat} (hx : x < 4294967296) : W32 (l.set i x) := by
  intro y hy
  rcases List.mem_or_eq_of_mem_set hy with hy | rfl
  · exact h y hy
  · exact hx

/-- the block's words, byte after byte -/
def fillN (l : List Nat) : Nat → List Nat
  | 0 => List.replicate 64 0
  | k + 1 => (fillN l k).set (k / 4) ((byteAt (fillN l k) (k / 4) * 256 + byteAt l k) % 4294967296)
theorem fillN_length (l : List Nat) : ∀ k, (fillN l k).length = 64
  | 0 => by simp [fillN]
  | k + 1 => by rw [fillN, List.length_set, fillN_length l k]
theorem fillN_lt (l : List Nat) : ∀ k, W32 (fillN l k)
  | 0 => fun x hx => by rw [(List.mem_replicate.1 hx).2]; omega
  | k + 1 => (fillN_lt l k).set _ (Nat.mod_lt _ (by omega))
def nextN (ws : List Nat) (t : Nat) : Nat := (((s1N (byteAt ws (t - 2)) + byteAt ws (t - 7)) % 4294967296 + s0N (byteAt ws (t - 15))) % 4294967296 + byteAt ws (t - 16)) % 4294967296
def extN (ws : List Nat) : Nat → List Nat
  | 0 => ws
  | k + 1 => (extN ws k).set (16 + k) (nextN (extN ws k) (16 + k))
theorem extN_length (l : List Nat) : ∀ k, (extN l k).length = l.length
  | 0 => rfl
  | k + 1 => by rw [extN, List.length_set, extN_length l k]
theorem extN_lt {l : List Nat} (h : W32 l) : ∀ k, W32 (extN l k)
  | 0 => h
  | k + 1 => (extN_lt h k).set _ (Nat.mod_lt _ (by omega))
/-- W0 to W63 -/
def schedN (l : List Nat) : List Nat := extN (fillN l 64) 48
theorem schedN_length (l : List Nat) : (schedN l).length = 64 := by rw [schedN, extN_length, fillN_length]
theorem schedN_lt (l : List Nat) : W32 (schedN l) := extN_lt (fillN_lt l 64) 48

/-- the eight words a to h -/
structure Wd where
  a : Nat
  b : Nat
  c : Nat
  d : Nat
  e : Nat
  f : Nat
  g : Nat
  h : Nat
def Wd.list (s : Wd) : List Nat := [s.a, s.b, s.c, s.d, s.e, s.f, s.g, s.h]
structure Wd.Ok (s : Wd) : Prop where
  a : s.a < 4294967296
  b : s.b < 4294967296
  c : s.c < 4294967296
  d : s.d < 4294967296
  e : s.e < 4294967296
  f : s.f < 4294967296
  g : s.g < 4294967296
  h : s.h < 4294967296
def t1N (s : Wd) (k w : Nat) : Nat := ((((s.h + g1N s.e) % 4294967296 + chN s.e s.f s.g) % 4294967296 + k) % 4294967296 + w) % 4294967296
def t2N (s : Wd) : Nat := (g0N s.a + majN s.a s.b s.c) % 4294967296
def roundN (s : Wd) (k w : Nat) : Wd := ⟨(t1N s k w + t2N s) % 4294967296, s.a, s.b, s.c, (s.d + t1N s k w) % 4294967296, s.e, s.f, s.g⟩
theorem roundN_ok {s : Wd} (h : s.Ok) (k w : Nat) : (roundN s k w).Ok := ⟨Nat.mod_lt _ (by omega), h.a, h.b, h.c, Nat.mod_lt _ (by omega), h.e, h.f, h.g⟩
def roundsN (ks ws : List Nat) (s : Wd) : Nat → Wd
  | 0 => s
  | n + 1 => roundN (roundsN ks ws s n) (byteAt ks n) (byteAt ws n)
theorem roundsN_ok (ks ws : List Nat) {s : Wd} (h : s.Ok) : ∀ n, (roundsN ks ws s n).Ok
  | 0 => h
  | n + 1 => roundN_ok (roundsN_ok ks ws h n) _ _
def sumN (s v : Wd) : Wd := ⟨(s.a + v.a) % 4294967296, (s.b + v.b) % 4294967296, (s.c + v.c) % 4294967296, (s.d + v.d) % 4294967296, (s.e + v.e) % 4294967296, (s.f + v.f) % 4294967296, (s.g + v.g) % 4294967296, (s.h + v.h) % 4294967296⟩
/-- a block's step -/
def stepN (ks : List Nat) (s : Wd) (block : List Nat) : Wd := sumN s (roundsN ks (schedN block) s 64)
theorem stepN_ok (ks : List Nat) (s : Wd) (block : List Nat) : (stepN ks s block).Ok := by
  constructor <;> exact Nat.mod_lt _ (by omega)
theorem chN_lt {e f g : Nat} (he : e < 4294967296) : chN e f g < 4294967296 := xor_lt (and_lt _ he) (and_lt _ (xor_lt he (by omega)))
theorem majN_lt {a b c : Nat} (ha : a < 4294967296) (hb : b < 4294967296) : majN a b c < 4294967296 := xor_lt (xor_lt (and_lt _ ha) (and_lt _ ha)) (and_lt _ hb)
/-- the first eight words and the 64 constants -/
def firstL : List Nat := [1779033703, 3144134277, 1013904242, 2773480762, 1359893119, 2600822924, 528734635, 1541459225]
def kL : List Nat := [1116352408, 1899447441, 3049323471, 3921009573, 961987163, 1508970993, 2453635748, 2870763221, 3624381080, 310598401, 607225278, 1426881987, 1925078388, 2162078206, 2614888103, 3248222580, 3835390401, 4022224774, 264347078, 604807628, 770255983, 1249150122, 1555081692, 1996064986, 2554220882, 2821834349, 2952996808, 3210313671, 3336571891, 3584528711, 113926993, 338241895, 666307205, 773529912, 1294757372, 1396182291, 1695183700, 1986661051, 2177026350, 2456956037, 2730485921, 2820302411, 3259730800, 3345764771, 3516065817, 3600352804, 4094571909, 275423344, 430227734, 506948616, 659060556, 883997877, 958139571, 1322822218, 1537002063, 1747873779, 1955562222, 2024104815, 2227730452, 2361852424, 2428436474, 2756734187, 3204031479, 3329325298]
def first0 : Wd := ⟨1779033703, 3144134277, 1013904242, 2773480762, 1359893119, 2600822924, 528734635, 1541459225⟩
theorem firstL_eq : firstL = first0.list := rfl
theorem first0_ok : first0.Ok := by constructor <;> decide
theorem kL_lt : W32 kL := by unfold W32; decide
theorem kL_length : kL.length = 64 := rfl
theorem firstL_length : firstL.length = 8 := rfl
theorem fillN_zero (l : List Nat) : fillN l 0 = List.replicate 64 0 := rfl
theorem fillN_succ (l : List Nat) (k : Nat) : fillN l (k + 1) = (fillN l k).set (k / 4) ((byteAt (fillN l k) (k / 4) * 256 + byteAt l k) % 4294967296) := rfl
theorem extN_zero (ws : List Nat) : extN ws 0 = ws := rfl
theorem extN_succ (ws : List Nat) (k : Nat) : extN ws (k + 1) = (extN ws k).set (16 + k) (nextN (extN ws k) (16 + k)) := rfl
theorem roundsN_zero (ks ws : List Nat) (s : Wd) : roundsN ks ws s 0 = s := rfl
theorem roundsN_succ (ks ws : List Nat) (s : Wd) (n : Nat) : roundsN ks ws s (n + 1) = roundN (roundsN ks ws s n) (byteAt ks n) (byteAt ws n) := rfl
theorem schedN_eq (l : List Nat) : extN (fillN l 64) 48 = schedN l := rfl
/-- the words' bytes, the highest of each first -/
def flatN (ws : List Nat) (i : Nat) : Nat := byteAt ws (i / 4) / 2 ^ (24 - 8 * (i % 4)) % 256
def flN (ws : List Nat) : Nat → List Nat
  | 0 => List.replicate 32 0
  | k + 1 => (flN ws k).set k (flatN ws k)
theorem flN_zero (ws : List Nat) : flN ws 0 = List.replicate 32 0 := rfl
theorem flN_succ (ws : List Nat) (k : Nat) : flN ws (k + 1) = (flN ws k).set k (flatN ws k) := rfl
theorem flN_length (ws : List Nat) : ∀ k, (flN ws k).length = 32
  | 0 => by simp [flN]
  | k + 1 => by rw [flN, List.length_set, flN_length ws k]
theorem flatN_lt (ws : List Nat) (i : Nat) : flatN ws i < 256 := Nat.mod_lt _ (by omega)
theorem flN_lt (ws : List Nat) : ∀ k, ∀ x ∈ flN ws k, x < 256
  | 0 => fun x hx => by rw [flN] at hx; rw [(List.mem_replicate.1 hx).2]; omega
  | k + 1 => fun x hx => by
    rw [flN] at hx
    rcases List.mem_or_eq_of_mem_set hx with hx | rfl
    · exact flN_lt ws k x hx
    · exact flatN_lt ws k
theorem flN_at (ws : List Nat) : ∀ k i, i < 32 → byteAt (flN ws k) i = if i < k then flatN ws i else 0
  | 0, i, hi => by
    unfold byteAt
    rw [flN, List.getD_eq_getElem?_getD, List.getElem?_replicate, if_pos hi, if_neg (by omega)]
    rfl
  | k + 1, i, hi => by
    have h := flN_at ws k i hi
    unfold byteAt at h ⊢
    rw [flN, List.getD_eq_getElem?_getD, List.getElem?_set]
    rw [List.getD_eq_getElem?_getD] at h
    by_cases he : k = i
    · subst he
      rw [if_pos rfl, if_pos (by rw [flN_length]; exact hi), if_pos (by omega)]
      rfl
    · rw [if_neg he, h]
      by_cases hk : i < k
      · rw [if_pos hk, if_pos (by omega)]
      · rw [if_neg hk, if_neg (by omega)]
attribute [irreducible] kL flN fillN extN roundsN schedN
end Go.Proofs.YtoiffchhfnbooaaGreatDoor

/-
  Contracts over the document's own answer for layer 4: products of 64 bits, prime numbers, the roots' bits.
-/
namespace Go.Proofs.YtoiffchhfnbooaaGreatDoor
set_option linter.unusedVariables false
set_option linter.unusedSimpArgs false
set_option linter.unusedVariables false
set_option linter.unusedSimpArgs false
open Go.RowKit

set_option maxHeartbeats 1000000 in
theorem mul64_any (x y : Nat) (w : World) (hx : x < 18446744073709551616) (hy : y < 18446744073709551616) :
    Calls Tryz.prog 96 #[.int .u64 (x : Int), .int .u64 (y : Int)] w fun e w' => e = .returned (.tuple #[.int .u64 ((x * y / 18446744073709551616 : Nat) : Int), .int .u64 ((x * y % 18446744073709551616 : Nat) : Int)]) ∧ w = w' := by
  obtain ⟨b1, b2, b3, hhi⟩ := Lib.mul64_hi x y hx hy
  have q1 := Lib.half_mul_le (a := x / 4294967296) (b := y / 4294967296) (by omega) (by omega)
  have q2 := Lib.half_mul_le (a := x / 4294967296) (b := y % 4294967296) (by omega) (by omega)
  have q3 := Lib.half_mul_le (a := x % 4294967296) (b := y / 4294967296) (by omega) (by omega)
  go_enter Tryz.func96, Tryz.ntmps96
  go_wp2
  simp only [Mul64.maskN x hx, Mul64.maskN y hy, Mul64.divN, Mul64.mulN, Mul64.addN]
  generalize x / 4294967296 * (y / 4294967296) = A at *
  generalize x / 4294967296 * (y % 4294967296) = B at *
  generalize x % 4294967296 * (y / 4294967296) = C at *
  generalize x % 4294967296 * (y % 4294967296) = D at *
  have hA : A < 18446744073709551616 := by omega
  have hB : B < 18446744073709551616 := by omega
  have hC : C < 18446744073709551616 := by omega
  have h1 : A + (B + D / 4294967296) / 4294967296 < 18446744073709551616 := by omega
  have h2 : A + (B + D / 4294967296) / 4294967296 + ((B + D / 4294967296) % 4294967296 + C) / 4294967296 < 18446744073709551616 := by omega
  simp only [Mul64.wrapN A hA, Mul64.wrapN B hB, Mul64.wrapN C hC, Mul64.wrapN D b1, Mul64.divN, Mul64.addN, Mul64.wrapN _ b2, Mul64.maskN _ b2, Mul64.wrapN _ b3, Mul64.wrapN _ h1, Mul64.wrapN _ h2, Mul64.wrapM (x * y)]
  rw [hhi]
  go_ret2
  exact ⟨rfl, rfl⟩

theorem run_add64_here (x y : Nat) (w : World) (h : x + y < 18446744073709551616) :
    (callFunc 97 #[.int .u64 (x : Int), .int .u64 (y : Int), .int .u64 0]).run Tryz.prog w = .ok (.value (.tuple #[.int .u64 ((x + y : Nat) : Int), .int .u64 0])) w := by
  rw [run_callFunc_extern Tryz.func97 (by kernel_rfl) (by kernel_rfl) (by kernel_rfl) (e := add64Entry) (by kernel_rfl), run_add64 _ _ 0 (by omega) (by omega) (by omega) (by omega)]
  simp only [Result.andThen]
  rw [show ((x : Int) + (y : Int) + 0) % 18446744073709551616 = ((x + y : Nat) : Int) by omega, show ((x : Int) + (y : Int) + 0) / 18446744073709551616 = 0 by omega]

/-- is a number prime? enough for numbers up to 400 -/
def noDiv (n : Nat) : Bool := (List.range 23).all fun j => decide (j < 2) || decide (n < j * j) || decide (n % j ≠ 0)
def primeB (n : Nat) : Bool := noDiv n && decide (2 ≤ n)
theorem noDiv_of {n d : Nat} (hn : n ≤ 400) (hd : n < d * d) (h : ∀ j, 2 ≤ j → j < d → j * j ≤ n → n % j ≠ 0) : noDiv n = true := by
  unfold noDiv
  rw [List.all_eq_true]
  intro j _
  by_cases h2 : j < 2
  · simp [h2]
  · by_cases h3 : n < j * j
    · simp [h3]
    · have : n % j ≠ 0 := by
        refine h j (by omega) ?_ (by omega)
        rcases Nat.lt_or_ge j d with h' | h'
        · exact h'
        · exact absurd (Nat.mul_le_mul h' h') (by omega)
      simp [this]
theorem noDiv_no {n d : Nat} (h2 : 2 ≤ d) (hd : d < 23) (h : d * d ≤ n) (h0 : n % d = 0) : noDiv n = false := by
  unfold noDiv
  rw [List.all_eq_false]
  exact ⟨d, List.mem_range.2 hd, by simp [h0]; omega⟩
theorem sq_le (d n : Nat) (hn : n ≤ 400) (h : d * d ≤ n) : d < 21 := by
  rcases Nat.lt_or_ge d 21 with h' | h'
  · exact h'
  · have := Nat.mul_le_mul h' h'; omega
theorem prime_ret {v : Value} {b c : Bool} (h : c = b) (hv : v = .bool b) : Ending.returned v = .returned (.bool c) := by rw [h, hv]

set_option maxHeartbeats 1000000 in
theorem prime_any (n : Nat) (w : World) (hn : n ≤ 400) (h2n : 2 ≤ n) : Calls Tryz.prog 95 #[.int .u64 (n : Int)] w fun e w' => e = .returned (.bool (noDiv n)) ∧ w = w' := by
  go_enter Tryz.func95, Tryz.ntmps95
  go_wp2
  go_loop [3] (fun t => ∃ d : Nat, 2 ≤ d ∧ d ≤ 21 ∧ t = .int .u64 (d : Int) ∧ ∀ j, 2 ≤ j → j < d → j * j ≤ n → n % j ≠ 0) (fun t => 30 - (intOf t).toNat)
  case atStart => exact ⟨2, by omega, by omega, rfl, fun j h1 h2 => by omega⟩
  case round =>
    obtain ⟨d, hd, hd2, rfl, hj⟩ := hrel
    have HJ := hide hj
    clear hj
    have hdd : d * d ≤ 441 := Nat.mul_le_mul hd2 hd2
    by_cases hle : d * d ≤ n
    · have hlt := sq_le d n hn hle
      by_cases h0 : n % d = 0
      · have HN := hide (noDiv_no hd (by omega) hle h0)
        have hm : (d : Int) * (d : Int) = ((d * d : Nat) : Int) := (Int.natCast_mul d d).symm
        generalize d * d = q at *
        have hz : (((n % d : Nat) : Int) == 0) = true := by rw [h0]; rfl
        have HZ := hide h0
        clear h0
        go_wp2
        go_ret
        exact ⟨prime_ret HN.out rfl, rfl⟩
      · have hm : (d : Int) * (d : Int) = ((d * d : Nat) : Int) := (Int.natCast_mul d d).symm
        have HS : Hid (∀ j, 2 ≤ j → j < d + 1 → j * j ≤ n → n % j ≠ 0) := hide (fun j h2 h3 h4 => by
          rcases Nat.lt_or_ge j d with h' | h'
          · exact HJ.out j h2 h' h4
          · obtain rfl : j = d := by omega
            exact h0)
        generalize d * d = q at *
        have hz : (((n % d : Nat) : Int) == 0) = false := by simp; omega
        have HZ := hide h0
        clear h0
        go_wp2
        go_round
        case rel => exact ⟨d + 1, by omega, by omega, by go_num, HS.out⟩
        case measure => simp [intOf]; omega
    · have HN := hide (noDiv_of hn (by omega) HJ.out)
      have hm : (d : Int) * (d : Int) = ((d * d : Nat) : Int) := (Int.natCast_mul d d).symm
      generalize d * d = q at *
      have hd2' : decide ((2 : Int) ≤ (n : Int)) = true := by simp; omega
      go_wp2
      go_ret
      exact ⟨prime_ret HN.out rfl, rfl⟩

/-- the roots' bits, the highest first -/
def sqN (p : Nat) : Nat → Nat
  | 0 => 0
  | m + 1 => if (sqN p m + 2 ^ (36 - m)) * (sqN p m + 2 ^ (36 - m)) ≤ p * 18446744073709551616 then sqN p m + 2 ^ (36 - m) else sqN p m
theorem sqN_succ (p m : Nat) : sqN p (m + 1) = if (sqN p m + 2 ^ (36 - m)) * (sqN p m + 2 ^ (36 - m)) ≤ p * 18446744073709551616 then sqN p m + 2 ^ (36 - m) else sqN p m := rfl
def cuN (p : Nat) : Nat → Nat
  | 0 => 0
  | m + 1 => if (cuN p m + 2 ^ (36 - m)) * (cuN p m + 2 ^ (36 - m)) * (cuN p m + 2 ^ (36 - m)) ≤ p * 79228162514264337593543950336 then cuN p m + 2 ^ (36 - m) else cuN p m
theorem cuN_succ (p m : Nat) : cuN p (m + 1) = if (cuN p m + 2 ^ (36 - m)) * (cuN p m + 2 ^ (36 - m)) * (cuN p m + 2 ^ (36 - m)) ≤ p * 79228162514264337593543950336 then cuN p m + 2 ^ (36 - m) else cuN p m := rfl
theorem sqN_le (p : Nat) : ∀ m, m ≤ 37 → sqN p m + 2 ^ (37 - m) ≤ 2 ^ 37
  | 0, _ => by simp [sqN]
  | m + 1, h => by
    have h1 := sqN_le p m (by omega)
    have e : 2 ^ (37 - m) = 2 ^ (36 - m) * 2 := by rw [← Nat.pow_succ]; congr 1; omega
    have e2 : 37 - (m + 1) = 36 - m := by omega
    rw [sqN_succ, e2]
    split <;> omega
theorem cuN_le (p : Nat) : ∀ m, m ≤ 37 → cuN p m + 2 ^ (37 - m) ≤ 2 ^ 37
  | 0, _ => by simp [cuN]
  | m + 1, h => by
    have h1 := cuN_le p m (by omega)
    have e : 2 ^ (37 - m) = 2 ^ (36 - m) * 2 := by rw [← Nat.pow_succ]; congr 1; omega
    have e2 : 37 - (m + 1) = 36 - m := by omega
    rw [cuN_succ, e2]
    split <;> omega
theorem sqs : [2, 3, 5, 7, 11, 13, 17, 19].map (fun p => sqN p 37 % 4294967296) = firstL := by decide +kernel
def primesL (p : Nat) : List Nat := (List.range p).filter primeB
theorem cus : (primesL 312).map (fun p => cuN p 37 % 4294967296) = kL := by decide +kernel
attribute [irreducible] sqN cuN primesL
end Go.Proofs.YtoiffchhfnbooaaGreatDoor

/-
  Slices of bytes of a call's own: append of any bytes behind them, a store into them, as steps of a walk. They speak of any program.
-/
namespace Go.Proofs.YtoiffchhfnbooaaGreatDoor
set_option linter.unusedVariables false
set_option linter.unusedSimpArgs false
set_option linter.unusedVariables false
set_option linter.unusedSimpArgs false
open Go.RowKit

/-- the walk stands still at a goal that is heldB -/
theorem holdB {p : Prop} (h : Hid p) : p := h
theorem heldB {p : Prop} (h : p) : Hid p := h

/-- a byte as a cell -/
def bv (x : Nat) : Value := .int .u8 (x : Int)
theorem bv_one (l : List Nat) : ∀ u ∈ l.map bv, u.oneCell' = true := by
  intro u hu
  obtain ⟨x, _, rfl⟩ := List.mem_map.1 hu
  rfl

/-- the slice (A, n, c) is of one's own, from block base on, and holds the bytes l -/
def OwnB (w : World) (base : Nat) (e : TypeId) (A : Option Addr) (n c : Nat) (l : List Nat) : Prop :=
  w.ownsRow base e 1 (.slice A n c) n (l.map bv) ∧ ∀ x ∈ l, x < 256

section
variable {w w' : World} {base n c : Nat} {e : TypeId} {A : Option Addr} {l : List Nat}
theorem OwnB.nil : OwnB w base e none 0 0 [] := ⟨⟨by simp, .inl ⟨rfl, rfl⟩⟩, by simp⟩
theorem OwnB.empty (w : World) (e : TypeId) : OwnB (w.alloc (.cells #[] e)) w.heap.size e (some ⟨w.heap.size, 0, none⟩) 0 0 [] :=
  ⟨⟨by simp, .inr ⟨w.heap.size, 0, #[], rfl, Nat.le_refl _, heap_alloc_new w _, Nat.le_refl _, by unfold maxLen; omega, by simp, by simp⟩⟩, by simp⟩
theorem OwnB.len (h : OwnB w base e A n c l) : l.length = n := by simpa using h.1.1
theorem OwnB.below (h : OwnB w base e A n c l) (hb : Below w.heap.size w w') : OwnB w' base e A n c l := by
  refine ⟨⟨h.1.1, ?_⟩, h.2⟩
  rcases h.1.2 with h0 | ⟨g, cap, cur, hv, hg, hh, r⟩
  · exact .inl h0
  · exact .inr ⟨g, cap, cur, hv, hg, (hb.block g (Array.getElem?_eq_some_iff.1 hh).1).trans hh, r⟩
theorem OwnB.base_le (h : OwnB w base e A n c l) {base' : Nat} (hb : base' ≤ base) : OwnB w base' e A n c l := by
  refine ⟨⟨h.1.1, ?_⟩, h.2⟩
  rcases h.1.2 with h0 | ⟨g, cap, cur, hv, hg, r⟩
  · exact .inl h0
  · exact .inr ⟨g, cap, cur, hv, Nat.le_trans hb hg, r⟩
theorem OwnB.cells (h : OwnB w base e A n c l) (hn : 0 < n) : ∃ g, A = some ⟨g, 0, none⟩ ∧ base ≤ g ∧ g < w.heap.size ∧ (∀ i, w.frozen? ⟨g, i, none⟩ = false) ∧ ∀ i, i < n → w.cell? ⟨g, i, none⟩ = some (.int .u8 ((byteAt l i : Nat) : Int)) := by
  have hlen := h.len
  rcases h.1.2 with ⟨_, h0⟩ | ⟨g, cap, cur, hv, hg, hh, hnc, hcm, hcs, htk⟩
  · omega
  · injection hv with hA _ hc
    subst hA
    refine ⟨g, rfl, hg, (Array.getElem?_eq_some_iff.1 hh).1, fun i => frozen_of_row w g i cur e hh, fun i hi => ?_⟩
    rw [cell_of_row w g i cur e (0, 0) hh]
    have : (cur.toList.take (n * 1))[i]? = (l.map bv)[i]? := by rw [htk]
    rw [List.getElem?_take, if_pos (by omega)] at this
    simp only [Array.getElem?_toList] at this
    rw [this, List.getElem?_map]
    unfold byteAt
    simp [List.getElem?_eq_getElem (show i < l.length by omega), bv]
theorem OwnB.bytes (h : OwnB w base e A n c l) : Bytes w w.heap.size A n l := by
  refine ⟨h.len, h.2, fun hn => ?_⟩
  obtain ⟨g, rfl, _, hl, _, hc⟩ := h.cells hn
  exact ⟨g, 0, rfl, hl, fun i hi => by rw [Nat.zero_add]; exact hc i hi⟩
theorem OwnB.cap (h : OwnB w base e A n c l) : n ≤ c ∧ c ≤ maxLen := by
  rcases h.1.2 with ⟨hv, h0⟩ | ⟨g, cap, cur, hv, hg, hh, hnc, hcm, hcs, htk⟩
  · injection hv with _ _ hc
    subst hc; subst h0
    exact ⟨Nat.le_refl _, by unfold maxLen; omega⟩
  · injection hv with _ _ hc
    subst hc
    exact ⟨hnc, hcm⟩
/-- a store at place i -/
theorem OwnB.put (h : OwnB w base e A n c l) {i : Nat} (_hi : i < n) (x : Nat) (hx : x < 256) {g : Nat} (hA : A = some ⟨g, 0, none⟩) : OwnB (w.setCell ⟨g, i, none⟩ (.int .u8 (x : Int))) base e A n c (l.set i x) := by
  subst hA
  have hlen := h.len
  refine ⟨⟨by simp [hlen], ?_⟩, fun y hy => ?_⟩
  · rcases h.1.2 with ⟨hv, _⟩ | ⟨g', cap, cur, hv, hg, hh, hnc, hcm, hcs, htk⟩
    · cases hv
    · injection hv with hA _ hc
      injection hA with hA
      injection hA with hA
      subst hA; subst hc
      refine .inr ⟨g, c, cur.setIfInBounds i (.int .u8 (x : Int)), rfl, hg, ?_, hnc, hcm, by simpa using hcs, ?_⟩
      · exact heap_setCell_same w g i cur e _ hh
      · rw [Array.toList_setIfInBounds, List.take_set, htk, List.map_set]
        rfl
  · rcases List.mem_or_eq_of_mem_set hy with hy | rfl
    · exact h.2 y hy
    · exact hx
end

section
variable {P : Program}
theorem run_append_bytes {w : World} {base : Nat} {e : TypeId} {A : Option Addr} {n c : Nat} {l : List Nat} (ho : OwnB w base e A n c l) (t ty : TypeId) (ht : P.underlying t = some (.slice e))
    (he : (P.info? e).map (fun i => (i.zero, i.size, i.bytes)) = some (some (.int .u8 0), 1, 1)) {B : Nat} {A' : Option Addr} {m c' : Nat} {l' : List Nat} (hb : Bytes w B A' m l') (hnm : n + m ≤ 1000000000) (hbase : base ≤ w.heap.size) :
    ∃ A2 c2 w', (Builtin.append_ #[t, t] ty #[.slice A n c, .slice A' m c']).run P w = .ok (.slice A2 (n + m) c2) w' ∧ OwnB w' base e A2 (n + m) c2 (l ++ l') ∧ Below base w w' ∧ w.grownBy w' (Value.slice A n c).ownBlock := by
  obtain ⟨i, hi, hz, hs, hby⟩ := info_parts he
  have hall : ∀ x ∈ l ++ l', x < 256 := fun x hx => (List.mem_append.1 hx).elim (ho.2 x) (hb.2.1 x)
  cases A' with
  | none =>
    have hm : m = 0 := by
      rcases Nat.eq_zero_or_pos m with h | h
      · exact h
      · obtain ⟨b, o, h', _⟩ := hb.2.2 h; cases h'
    subst hm
    have hl' : l' = [] := List.eq_nil_of_length_eq_zero hb.1
    subst hl'
    refine ⟨A, c, w, ?_, by simpa using ho, Below.refl _ _, World.grownBy.refl w _⟩
    have hc := ho.cap.1
    cases A with
    | none => 
      rcases ho.1.2 with ⟨hv, h0⟩ | ⟨g, cap, cur, hv, _⟩
      · injection hv with _ _ hc
        subst hc; subst h0
        simp [Builtin.append_, run_underlying ht, sizeOf, typeInfo, hi, Builtin.lenOf, Builtin.firstCells]
      · cases hv
    | some a => simp [Builtin.append_, run_underlying ht, sizeOf, typeInfo, hi, Builtin.lenOf, Builtin.firstCells, hc, storeCells]
  | some ad =>
    have hnews : ∀ (j : Nat) (u : Value), (l'.map bv)[j]? = some u → w.cell? (ad.add j) = some u := by
      intro j u hu
      rw [List.getElem?_map] at hu
      have hj : j < l'.length := by
        rcases Nat.lt_or_ge j l'.length with h | h
        · exact h
        · rw [List.getElem?_eq_none h] at hu; cases hu
      rw [List.getElem?_eq_getElem hj] at hu
      injection hu with hu
      subst hu
      obtain ⟨b, o, h', _, hc⟩ := hb.2.2 (by rw [← hb.1]; omega)
      injection h' with h'
      subst h'
      rw [Addr.add_mid, hc j (by rw [← hb.1]; exact hj)]
      unfold byteAt bv
      simp [List.getElem?_eq_getElem hj]
    obtain ⟨v', w', hrun, h1, h2, _, _⟩ := run_append_own_at (P := P) w base t ty e i (.int .u8 0) 1 1 ht hi hz hs hby rfl (by omega) (.slice A n c) n (l.map bv) ho.1 ad m c' (l'.map bv) (by simp [hb.1]) hnews (bv_one _) (by unfold maxLen; omega) (by omega) hbase
    have hsh : ∃ A2 c2, v' = .slice A2 (n + m) c2 := by
      rcases h1.2 with ⟨rfl, h0⟩ | ⟨g, cap, cur, rfl, _⟩
      · rw [h0]; exact ⟨_, _, rfl⟩
      · exact ⟨_, _, rfl⟩
    obtain ⟨A2, c2, rfl⟩ := hsh
    refine ⟨A2, c2, w', hrun, ⟨by rw [List.map_append]; exact h1, hall⟩, (Below.refl _ _).grown h2 hbase (fun k hk => ?_), h2⟩
    exact (ho.1.lt k hk).1

theorem wpList_append_bytes {ops : Array Oper} {rest : List Oper} {o : Oper} {a : Act} {w : World} {Q : Exit → Act → World → Prop} (hgd : o.guard = none) (s x : Operand) (t : TypeId)
    (ho : o.op = .call { callee := .builtin .append, args := #[s, x], argTypes := #[t, t] }) {e : TypeId} (ht : P.underlying t = some (.slice e))
    (he : (P.info? e).map (fun i => (i.zero, i.size, i.bytes)) = some (some (.int .u8 0), 1, 1))
    (base : Nat) (A : Option Addr) (n c : Nat) (l : List Nat) (hs : a.eval s = .slice A n c) (hown : OwnB w base e A n c l)
    (B : Nat) (A' : Option Addr) (m c' : Nat) (l' : List Nat) (hx : a.eval x = .slice A' m c') (hb : Bytes w B A' m l') (hnm : n + m ≤ 1000000000) (hbase : base ≤ w.heap.size)
    (h : ∀ A2 c2 w', OwnB w' base e A2 (n + m) c2 (l ++ l') → Below base w w' → w.grownBy w' (Value.slice A n c).ownBlock → wpList P ops Q rest (a.put o.dst (.slice A2 (n + m) c2)) w') : wpList P ops Q (o :: rest) a w :=
  wpList_plain hgd fun _ hK => by
    obtain ⟨A2, c2, w', hrun, h2, h3, h4⟩ := run_append_bytes (P := P) hown t o.type ht he (c' := c') hb hnm hbase
    unfold Oper.wp execOp
    simp only [ho, resolve, invoke, builtin, Sem.run_bind, Sem.run_pure, Result.andThen_ok, List.map_toArray, List.map_cons, List.map_nil, hs, hx, hrun]
    exact hK _ _ (h A2 c2 w' h2 h3 h4)
end
end Go.Proofs.YtoiffchhfnbooaaGreatDoor

/-
  Contracts over the document's own answer for layer 4: the bits of square and cube roots.
-/
namespace Go.Proofs.YtoiffchhfnbooaaGreatDoor
set_option linter.unusedVariables false
set_option linter.unusedSimpArgs false
set_option linter.unusedVariables false
set_option linter.unusedSimpArgs false
open Go.RowKit

theorem sq_hi_lt {y p : Nat} (h : y * y / 18446744073709551616 < p) : y * y ≤ p * 18446744073709551616 := by omega
theorem ret_mod {a b : Int} (h : a = b) : Ending.returned (.int .u32 a) = .returned (.int .u32 b) := by rw [h]

set_option maxHeartbeats 1000000 in
theorem square_any (p : Nat) (w : World) (hp : p ≤ 400) : Calls Tryz.prog 73 #[.int .u64 (p : Int)] w fun e w' => e = .returned (.int .u32 ((sqN p 37 % 4294967296 : Nat) : Int)) ∧ w = w' := by
  go_enter Tryz.func73, Tryz.ntmps73
  go_wp2
  go_loop [3, 4] (fun x t => ∃ m : Nat, m ≤ 37 ∧ t = .int .i64 (36 - (m : Int)) ∧ x = .int .u64 ((sqN p m : Nat) : Int)) (fun _ t => (intOf t + 1).toNat)
  case atStart => exact ⟨0, by omega, by simp, by rw [show sqN p 0 = 0 by unfold sqN; rfl]; rfl⟩
  case round =>
    obtain ⟨m, hm, rfl, rfl⟩ := hrel
    have hle := sqN_le p m hm
    by_cases hlt : m < 37
    · obtain ⟨b, hb⟩ : ∃ b : Nat, b = 36 - m := ⟨_, rfl⟩
      have e1 : (36 : Int) - (m : Int) = (b : Int) := by omega
      have HS := hide (sqN_succ p m)
      have hpow : 2 ^ (37 - m) = 2 ^ b * 2 := by rw [← Nat.pow_succ]; congr 1; omega
      rw [← hb] at HS
      rw [hpow] at hle
      have hb36 : b ≤ 36 := by omega
      have HB := hide hb
      clear hb hpow
      rw [e1]
      have E1 := hide e1
      clear e1
      have hc : (2 : Int) ^ b = ((2 ^ b : Nat) : Int) := by rw [Int.natCast_pow]; rfl
      have hpos : 0 < 2 ^ b := Nat.pow_pos (by omega)
      generalize 2 ^ b = q at *
      generalize sqN p m = x at *
      have hx : x + q ≤ 137438953472 := by omega
      obtain ⟨y, hy⟩ : ∃ y, y = x + q := ⟨_, rfl⟩
      rw [← hy] at HS hx
      have hyi : (x : Int) + (q : Int) = (y : Int) := by omega
      have HC := mul64_any y y w (by omega) (by omega)
      have hdm := Nat.div_add_mod (y * y) 18446744073709551616
      have hmod : y * y % 18446744073709551616 < 18446744073709551616 := Nat.mod_lt _ (by omega)
      generalize y * y / 18446744073709551616 = hi at *
      generalize y * y % 18446744073709551616 = lo at *
      generalize y * y = yy at *
      have HY := hide hy
      have HDM := hide hdm
      have HMOD := hide hmod
      clear hy hdm hmod hpos
      clear hle
      by_cases h1 : hi < p
      · have HS2 := hide (HS.out.trans (if_pos (by have := HDM.out; have := HMOD.out; omega)))
        have h1i : (hi : Int) < (p : Int) := by omega
        clear HS
        go_wp2_with fail
        refine HC.mono ?_
        rintro e w' ⟨rfl, rfl⟩
        go_wp2
        go_round
        case rel => exact ⟨m + 1, by omega, by have := E1.out; go_num, by rw [HS2.out]⟩
        case measure => simp [intOf]
      · have h1i : ¬ (hi : Int) < (p : Int) := by omega
        by_cases h2 : hi = p ∧ lo = 0
        · have HS2 := hide (HS.out.trans (if_pos (by have := HDM.out; have := HMOD.out; omega)))
          have h2i : ((hi : Int) == (p : Int)) = true := by simp; omega
          have h3i : ((lo : Int) == 0) = true := by simp; omega
          clear HS h2 h1
          go_wp2_with fail
          refine HC.mono ?_
          rintro e w' ⟨rfl, rfl⟩
          go_wp2
          go_round
          case rel => exact ⟨m + 1, by omega, by have := E1.out; go_num, by rw [HS2.out]⟩
          case measure => simp [intOf]
        · have HS2 := hide (HS.out.trans (if_neg (by have := HDM.out; have := HMOD.out; omega)))
          by_cases h4 : hi = p
          · have h2i : ((hi : Int) == (p : Int)) = true := by simp; omega
            have h3i : ((lo : Int) == 0) = false := by simp; omega
            clear HS h2 h1 h4
            go_wp2_with fail
            refine HC.mono ?_
            rintro e w' ⟨rfl, rfl⟩
            go_wp2
            go_round
            case rel => exact ⟨m + 1, by omega, by have := E1.out; go_num, by rw [HS2.out]⟩
            case measure => simp [intOf]
          · have h2i : ((hi : Int) == (p : Int)) = false := by simp; omega
            clear HS h2 h1 h4
            go_wp2_with fail
            refine HC.mono ?_
            rintro e w' ⟨rfl, rfl⟩
            go_wp2
            go_round
            case rel => exact ⟨m + 1, by omega, by have := E1.out; go_num, by rw [HS2.out]⟩
            case measure => simp [intOf]
    · have hm37 : m = 37 := by omega
      rw [hm37] at hle ⊢
      have hneg : (36 : Int) - ((37 : Nat) : Int) = -1 := by omega
      rw [hneg]
      obtain ⟨x, hx0⟩ : ∃ x, x = sqN p 37 := ⟨_, rfl⟩
      rw [← hx0] at hle ⊢
      have HX := hide hx0
      have hx : x ≤ 137438953472 := by omega
      clear hle hlt hm hm37 hx0
      go_wp2
      go_ret
      exact ⟨ret_int (by rw [← HX.out]; try omega), rfl⟩

/-- a third power, in words of 64 bits -/
theorem cube_words {y hi lo b a : Nat} (h1 : y * y = 18446744073709551616 * hi + lo) (h2 : lo * y = 18446744073709551616 * b + a) : y * y * y = 18446744073709551616 * (b + hi * y) + a := by
  rw [h1, Nat.add_mul, h2, Nat.mul_assoc, Nat.mul_add]
  omega

set_option maxRecDepth 20000 in
set_option maxHeartbeats 2000000 in
theorem cube_any (p : Nat) (w : World) (hp : p ≤ 400) : Calls Tryz.prog 74 #[.int .u64 (p : Int)] w fun e w' => e = .returned (.int .u32 ((cuN p 37 % 4294967296 : Nat) : Int)) ∧ w = w' := by
  go_enter Tryz.func74, Tryz.ntmps74
  go_wp2
  go_loop [3, 4] (fun x t => ∃ m : Nat, m ≤ 37 ∧ t = .int .i64 (36 - (m : Int)) ∧ x = .int .u64 ((cuN p m : Nat) : Int)) (fun _ t => (intOf t + 1).toNat)
  case atStart => exact ⟨0, by omega, by simp, by rw [show cuN p 0 = 0 by unfold cuN; rfl]; rfl⟩
  case round =>
    obtain ⟨m, hm, rfl, rfl⟩ := hrel
    have hle := cuN_le p m hm
    by_cases hlt : m < 37
    · obtain ⟨b, hb⟩ : ∃ b : Nat, b = 36 - m := ⟨_, rfl⟩
      have e1 : (36 : Int) - (m : Int) = (b : Int) := by omega
      have HS := hide (cuN_succ p m)
      have hpow : 2 ^ (37 - m) = 2 ^ b * 2 := by rw [← Nat.pow_succ]; congr 1; omega
      rw [← hb] at HS
      rw [hpow] at hle
      have hb36 : b ≤ 36 := by omega
      have HB := hide hb
      clear hb hpow
      rw [e1]
      have E1 := hide e1
      clear e1
      have hc : (2 : Int) ^ b = ((2 ^ b : Nat) : Int) := by rw [Int.natCast_pow]; rfl
      have hpos : 0 < 2 ^ b := Nat.pow_pos (by omega)
      generalize 2 ^ b = q at *
      generalize cuN p m = x at *
      have hx : x + q ≤ 137438953472 := by omega
      obtain ⟨y, hy⟩ : ∃ y, y = x + q := ⟨_, rfl⟩
      rw [← hy] at HS hx
      have hyi : (x : Int) + (q : Int) = (y : Int) := by omega
      have HC := mul64_any y y w (by omega) (by omega)
      have hdm := Nat.div_add_mod (y * y) 18446744073709551616
      have hmod : y * y % 18446744073709551616 < 18446744073709551616 := Nat.mod_lt _ (by omega)
      have hyy : y * y ≤ 137438953472 * 137438953472 := Nat.mul_le_mul hx hx
      generalize y * y / 18446744073709551616 = hi at *
      generalize y * y % 18446744073709551616 = lo at *
      have hhi : hi ≤ 1024 := by omega
      have HC2 := mul64_any lo y w hmod (by omega)
      have hdm2 := Nat.div_add_mod (lo * y) 18446744073709551616
      have hmod2 : lo * y % 18446744073709551616 < 18446744073709551616 := Nat.mod_lt _ (by omega)
      have hly : lo * y ≤ 18446744073709551616 * 137438953472 := Nat.mul_le_mul (by omega) hx
      generalize lo * y / 18446744073709551616 = bb at *
      generalize lo * y % 18446744073709551616 = aa at *
      have hcw := cube_words hdm.symm hdm2.symm
      have hbb : bb ≤ 137438953472 := by omega
      have hcy : hi * y ≤ 1024 * 137438953472 := Nat.mul_le_mul hhi hx
      have HC3 := mul64_any hi y w (by omega) (by omega)
      rw [Nat.div_eq_of_lt (by omega), Nat.mod_eq_of_lt (by omega), show ((0 : Nat) : Int) = 0 from rfl] at HC3
      have HA := fun W => run_add64_here bb (hi * y) W (by omega)
      rw [hcw] at HS
      generalize hi * y = cc at *
      clear hly hyy hdm hdm2 hcw
      obtain ⟨mid, hmid⟩ : ∃ mid, mid = bb + cc := ⟨_, rfl⟩
      rw [← hmid] at HS HA
      have HMID := hide hmid
      have hmid2 : mid ≤ 281474976710656 := by omega
      obtain ⟨want, hwant⟩ : ∃ want, want = p * 4294967296 := ⟨_, rfl⟩
      have hwi : (p : Int) * 4294967296 = (want : Int) := by omega
      have hcond : (18446744073709551616 * mid + aa ≤ p * 79228162514264337593543950336) ↔ (mid < want ∨ mid = want ∧ aa = 0) := by omega
      have hwl : want ≤ 1717986918400 := by omega
      have HY := hide hy
      have HCOND := hide hcond
      clear hcond hmod hy hmid hwant hpos hle hcy hbb hhi
      have hwb : (want : Int) < 18446744073709551616 := by omega
      have hmod3 : (aa : Int) < 18446744073709551616 := by omega
      clear hmod2
      go_wp2_with fail
      refine HC.mono ?_
      rintro e w' ⟨rfl, rfl⟩
      go_wp2_with fail
      refine HC2.mono ?_
      rintro e w' ⟨rfl, rfl⟩
      go_wp2_with fail
      refine HC3.mono ?_
      rintro e w' ⟨rfl, rfl⟩
      dsimp only
      iterate 78 go_step
      clear HC HC2 HC3 HA hwi hwb hwl hmid2 hyi hc hmod3
      by_cases h1 : mid < want
      · have HS2 := hide (HS.out.trans (if_pos (HCOND.out.2 (.inl h1))))
        have h1i : (mid : Int) < (want : Int) := by omega
        clear HS HCOND
        go_wp2
        go_round
        case rel => exact ⟨m + 1, by omega, by have := E1.out; go_num, by rw [HS2.out]⟩
        case measure => simp [intOf]
      · have h1i : ¬ (mid : Int) < (want : Int) := by omega
        by_cases h2 : mid = want ∧ aa = 0
        · have HS2 := hide (HS.out.trans (if_pos (HCOND.out.2 (.inr h2))))
          have h2i : ((mid : Int) == (want : Int)) = true := by simp; omega
          have h3i : ((aa : Int) == 0) = true := by simp; omega
          clear HS HCOND h1 h2
          go_wp2
          go_round
          case rel => exact ⟨m + 1, by omega, by have := E1.out; go_num, by rw [HS2.out]⟩
          case measure => simp [intOf]
        · have HS2 := hide (HS.out.trans (if_neg (fun h => (HCOND.out.1 h).elim h1 h2)))
          by_cases h4 : mid = want
          · have h2i : ((mid : Int) == (want : Int)) = true := by simp; omega
            have h3i : ((aa : Int) == 0) = false := by simp; omega
            clear HS HCOND h1 h2 h4
            go_wp2
            go_round
            case rel => exact ⟨m + 1, by omega, by have := E1.out; go_num, by rw [HS2.out]⟩
            case measure => simp [intOf]
          · have h2i : ((mid : Int) == (want : Int)) = false := by simp; omega
            clear HS HCOND h1 h2 h4
            go_wp2
            go_round
            case rel => exact ⟨m + 1, by omega, by have := E1.out; go_num, by rw [HS2.out]⟩
            case measure => simp [intOf]
    · have hm37 : m = 37 := by omega
      rw [hm37] at hle ⊢
      have hneg : (36 : Int) - ((37 : Nat) : Int) = -1 := by omega
      rw [hneg]
      obtain ⟨x, hx0⟩ : ∃ x, x = cuN p 37 := ⟨_, rfl⟩
      rw [← hx0] at hle ⊢
      have HX := hide hx0
      have hx : x ≤ 137438953472 := by omega
      clear hle hlt hm hm37 hx0
      go_wp2
      go_ret
      exact ⟨ret_int (by rw [← HX.out]; try omega), rfl⟩
end Go.Proofs.YtoiffchhfnbooaaGreatDoor
