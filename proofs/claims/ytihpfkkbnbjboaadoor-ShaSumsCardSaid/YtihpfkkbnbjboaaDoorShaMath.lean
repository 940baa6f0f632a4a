/-
  SHA-256 on plain numbers. Nothing here speaks of a program.
-/
import Derived.WalkKit
import Derived.Laws.BitsAllLaws
import Derived.Test.YtihpfkkbnbjboaaDoorBytes
namespace Go.Proofs.YtihpfkkbnbjboaaDoor
set_option linter.unusedVariables false
set_option linter.unusedSimpArgs false

/-- rotated to the right -/
def rotN (x n : Nat) : Nat := x / 2 ^ n + x % 2 ^ n * 2 ^ (32 - n)
theorem pow_split {n : Nat} (hn : n ≤ 32) : 2 ^ (32 - n) * 2 ^ n = 4294967296 := by
  rw [← Nat.pow_add, show 32 - n + n = 32 by omega]
theorem shl_mod {x n : Nat} (hn : n ≤ 32) : x * 2 ^ (32 - n) % 4294967296 = x % 2 ^ n * 2 ^ (32 - n) := by
  rw [← pow_split hn, Nat.mul_comm (2 ^ (32 - n)) (2 ^ n), Nat.mul_mod_mul_right]
theorem shr_lt {x n : Nat} (hx : x < 4294967296) (hn : n ≤ 32) : x / 2 ^ n < 2 ^ (32 - n) := by
  rw [Nat.div_lt_iff_lt_mul (Nat.pow_pos (by omega)), pow_split hn]; exact hx
theorem rotN_lt {x n : Nat} (hx : x < 4294967296) (hn : n ≤ 32) : rotN x n < 4294967296 := by
  have h1 := shr_lt hx hn
  have h2 : x % 2 ^ n < 2 ^ n := Nat.mod_lt _ (Nat.pow_pos (by omega))
  have h3 : (x % 2 ^ n + 1) * 2 ^ (32 - n) ≤ 2 ^ n * 2 ^ (32 - n) := Nat.mul_le_mul_right _ h2
  rw [Nat.mul_comm (2 ^ n), pow_split hn, Nat.add_mul, Nat.one_mul] at h3
  unfold rotN
  omega
theorem rotN_or {x n : Nat} (hx : x < 4294967296) (hn : n ≤ 32) : x * 2 ^ (32 - n) % 4294967296 ||| x / 2 ^ n = rotN x n := by
  rw [shl_mod hn, nat_join (32 - n) _ _ (Nat.mul_mod_left _ _) (shr_lt hx hn)]
  unfold rotN
  omega
theorem rotN_sum {x n : Nat} (hx : x < 4294967296) (hn : n ≤ 32) : (x / 2 ^ n + x * 2 ^ (32 - n) % 4294967296) % 4294967296 = rotN x n := by
  rw [shl_mod hn]
  exact Nat.mod_eq_of_lt (rotN_lt hx hn)

def s0N (x : Nat) : Nat := rotN x 7 ^^^ rotN x 18 ^^^ x / 8
def s1N (x : Nat) : Nat := rotN x 17 ^^^ rotN x 19 ^^^ x / 1024
def g0N (x : Nat) : Nat := rotN x 2 ^^^ rotN x 13 ^^^ rotN x 22
def g1N (x : Nat) : Nat := rotN x 6 ^^^ rotN x 11 ^^^ rotN x 25
theorem xor_lt {a b : Nat} (ha : a < 4294967296) (hb : b < 4294967296) : a ^^^ b < 4294967296 := Nat.xor_lt_two_pow (n := 32) ha hb
theorem and_lt {a : Nat} (b : Nat) (ha : a < 4294967296) : a &&& b < 4294967296 := Nat.lt_of_le_of_lt Nat.and_le_left ha
theorem g0N_lt {x : Nat} (h : x < 4294967296) : g0N x < 4294967296 := xor_lt (xor_lt (rotN_lt h (by omega)) (rotN_lt h (by omega))) (rotN_lt h (by omega))
theorem g1N_lt {x : Nat} (h : x < 4294967296) : g1N x < 4294967296 := xor_lt (xor_lt (rotN_lt h (by omega)) (rotN_lt h (by omega))) (rotN_lt h (by omega))
theorem s0N_lt {x : Nat} (h : x < 4294967296) : s0N x < 4294967296 := xor_lt (xor_lt (rotN_lt h (by omega)) (rotN_lt h (by omega))) (by omega)
theorem s1N_lt {x : Nat} (h : x < 4294967296) : s1N x < 4294967296 := xor_lt (xor_lt (rotN_lt h (by omega)) (rotN_lt h (by omega))) (by omega)
def chN (e f g : Nat) : Nat := (e &&& f) ^^^ ((e ^^^ 4294967295) &&& g)
def majN (a b c : Nat) : Nat := (a &&& b) ^^^ (a &&& c) ^^^ (b &&& c)

/-- words of 32 bits -/
def W32 (l : List Nat) : Prop := ∀ x ∈ l, x < 4294967296
theorem W32.lt {l : List Nat} (h : W32 l) (i : Nat) : byteAt l i < 4294967296 := by
  unfold byteAt
  rw [List.getD_eq_getElem?_getD]
  cases hx : l[i]? with
  | none => simp
  | some x => exact h x (List.mem_of_getElem? hx)
theorem W32.set {l : List Nat} (h : W32 l) (i : Nat) {x : Nat} (hx : x < 4294967296) : W32 (l.set i x) := by
  intro y hy
  rcases List.mem_or_eq_of_mem_set hy with hy | rfl
  · exact h y hy
  · exact hx

/-- the block's words, byte after byte -/
def fillN (l : List Nat) : Nat → List Nat
  | 0 => List.replicate 64 0
  | k + 1 => (fillN l k).set (k / 4) ((byteAt (fillN l k) (k / 4) * 256 + byteAt l k) % 4294967296)
theorem fillN_length (l : List Nat) : ∀ k, (fillN l k).length = 64
  | 0 => by simp [fillN]
  | k + 1 => by rw [fillN, List.length_set, fillN_length l k]
theorem fillN_lt (l : List Nat) : ∀ k, W32 (fillN l k)
  | 0 => fun x hx => by rw [(List.mem_replicate.1 hx).2]; omega
  | k + 1 => (fillN_lt l k).set _ (Nat.mod_lt _ (by omega))
def nextN (ws : List Nat) (t : Nat) : Nat := (((s1N (byteAt ws (t - 2)) + byteAt ws (t - 7)) % 4294967296 + s0N (byteAt ws (t - 15))) % 4294967296 + byteAt ws (t - 16)) % 4294967296
def extN (ws : List Nat) : Nat → List Nat
  | 0 => ws
  | k + 1 => (extN ws k).set (16 + k) (nextN (extN ws k) (16 + k))
theorem extN_length (l : List Nat) : ∀ k, (extN l k).length = l.length
  | 0 => rfl
  | k + 1 => by rw [extN, List.length_set, extN_length l k]
theorem extN_lt {l : List Nat} (h : W32 l) : ∀ k, W32 (extN l k)
  | 0 => h
  | k + 1 => (extN_lt h k).set _ (Nat.mod_lt _ (by omega))
/-- W0 to W63 -/
def schedN (l : List Nat) : List Nat := extN (fillN l 64) 48
theorem schedN_length (l : List Nat) : (schedN l).length = 64 := by rw [schedN, extN_length, fillN_length]
theorem schedN_lt (l : List Nat) : W32 (schedN l) := extN_lt (fillN_lt l 64) 48

/-- the eight words a to h -/
structure Wd where
  a : Nat
  b : Nat
  c : Nat
  d : Nat
  e : Nat
  f : Nat
  g : Nat
  h : Nat
def Wd.list (s : Wd) : List Nat := [s.a, s.b, s.c, s.d, s.e, s.f, s.g, s.h]
structure Wd.Ok (s : Wd) : Prop where
  a : s.a < 4294967296
  b : s.b < 4294967296
  c : s.c < 4294967296
  d : s.d < 4294967296
  e : s.e < 4294967296
  f : s.f < 4294967296
  g : s.g < 4294967296
  h : s.h < 4294967296
def t1N (s : Wd) (k w : Nat) : Nat := ((((s.h + g1N s.e) % 4294967296 + chN s.e s.f s.g) % 4294967296 + k) % 4294967296 + w) % 4294967296
def t2N (s : Wd) : Nat := (g0N s.a + majN s.a s.b s.c) % 4294967296
def roundN (s : Wd) (k w : Nat) : Wd := ⟨(t1N s k w + t2N s) % 4294967296, s.a, s.b, s.c, (s.d + t1N s k w) % 4294967296, s.e, s.f, s.g⟩
theorem roundN_ok {s : Wd} (h : s.Ok) (k w : Nat) : (roundN s k w).Ok := ⟨Nat.mod_lt _ (by omega), h.a, h.b, h.c, Nat.mod_lt _ (by omega), h.e, h.f, h.g⟩
def roundsN (ks ws : List Nat) (s : Wd) : Nat → Wd
  | 0 => s
  | n + 1 => roundN (roundsN ks ws s n) (byteAt ks n) (byteAt ws n)
theorem roundsN_ok (ks ws : List Nat) {s : Wd} (h : s.Ok) : ∀ n, (roundsN ks ws s n).Ok
  | 0 => h
  | n + 1 => roundN_ok (roundsN_ok ks ws h n) _ _
def sumN (s v : Wd) : Wd := ⟨(s.a + v.a) % 4294967296, (s.b + v.b) % 4294967296, (s.c + v.c) % 4294967296, (s.d + v.d) % 4294967296, (s.e + v.e) % 4294967296, (s.f + v.f) % 4294967296, (s.g + v.g) % 4294967296, (s.h + v.h) % 4294967296⟩
/-- a block's step -/
def stepN (ks : List Nat) (s : Wd) (block : List Nat) : Wd := sumN s (roundsN ks (schedN block) s 64)
theorem stepN_ok (ks : List Nat) (s : Wd) (block : List Nat) : (stepN ks s block).Ok := by
  constructor <;> exact Nat.mod_lt _ (by omega)
theorem chN_lt {e f g : Nat} (he : e < 4294967296) : chN e f g < 4294967296 := xor_lt (and_lt _ he) (and_lt _ (xor_lt he (by omega)))
theorem majN_lt {a b c : Nat} (ha : a < 4294967296) (hb : b < 4294967296) : majN a b c < 4294967296 := xor_lt (xor_lt (and_lt _ ha) (and_lt _ ha)) (and_lt _ hb)
/-- the first eight words and the 64 constants -/
def firstL : List Nat := [1779033703, 3144134277, 1013904242, 2773480762, 1359893119, 2600822924, 528734635, 1541459225]
def kL : List Nat := [1116352408, 1899447441, 3049323471, 3921009573, 961987163, 1508970993, 2453635748, 2870763221, 3624381080, 310598401, 607225278, 1426881987, 1925078388, 2162078206, 2614888103, 3248222580, 3835390401, 4022224774, 264347078, 604807628, 770255983, 1249150122, 1555081692, 1996064986, 2554220882, 2821834349, 2952996808, 3210313671, 3336571891, 3584528711, 113926993, 338241895, 666307205, 773529912, 1294757372, 1396182291, 1695183700, 1986661051, 2177026350, 2456956037, 2730485921, 2820302411, 3259730800, 3345764771, 3516065817, 3600352804, 4094571909, 275423344, 430227734, 506948616, 659060556, 883997877, 958139571, 1322822218, 1537002063, 1747873779, 1955562222, 2024104815, 2227730452, 2361852424, 2428436474, 2756734187, 3204031479, 3329325298]
def first0 : Wd := ⟨1779033703, 3144134277, 1013904242, 2773480762, 1359893119, 2600822924, 528734635, 1541459225⟩
theorem firstL_eq : firstL = first0.list := rfl
theorem first0_ok : first0.Ok := by constructor <;> decide
theorem kL_lt : W32 kL := by unfold W32; decide
theorem kL_length : kL.length = 64 := rfl
theorem firstL_length : firstL.length = 8 := rfl
theorem fillN_zero (l : List Nat) : fillN l 0 = List.replicate 64 0 := rfl
theorem fillN_succ (l : List Nat) (k : Nat) : fillN l (k + 1) = (fillN l k).set (k / 4) ((byteAt (fillN l k) (k / 4) * 256 + byteAt l k) % 4294967296) := rfl
theorem extN_zero (ws : List Nat) : extN ws 0 = ws := rfl
theorem extN_succ (ws : List Nat) (k : Nat) : extN ws (k + 1) = (extN ws k).set (16 + k) (nextN (extN ws k) (16 + k)) := rfl
theorem roundsN_zero (ks ws : List Nat) (s : Wd) : roundsN ks ws s 0 = s := rfl
theorem roundsN_succ (ks ws : List Nat) (s : Wd) (n : Nat) : roundsN ks ws s (n + 1) = roundN (roundsN ks ws s n) (byteAt ks n) (byteAt ws n) := rfl
theorem schedN_eq (l : List Nat) : extN (fillN l 64) 48 = schedN l := rfl
/-- the words' bytes, the highest of each first -/
def flatN (ws : List Nat) (i : Nat) : Nat := byteAt ws (i / 4) / 2 ^ (24 - 8 * (i % 4)) % 256
def flN (ws : List Nat) : Nat → List Nat
  | 0 => List.replicate 32 0
  | k + 1 => (flN ws k).set k (flatN ws k)
theorem flN_zero (ws : List Nat) : flN ws 0 = List.replicate 32 0 := rfl
theorem flN_succ (ws : List Nat) (k : Nat) : flN ws (k + 1) = (flN ws k).set k (flatN ws k) := rfl
theorem flN_length (ws : List Nat) : ∀ k, (flN ws k).length = 32
  | 0 => by simp [flN]
  | k + 1 => by rw [flN, List.length_set, flN_length ws k]
theorem flatN_lt (ws : List Nat) (i : Nat) : flatN ws i < 256 := Nat.mod_lt _ (by omega)
theorem flN_lt (ws : List Nat) : ∀ k, ∀ x ∈ flN ws k, x < 256
  | 0 => fun x hx => by rw [flN] at hx; rw [(List.mem_replicate.1 hx).2]; omega
  | k + 1 => fun x hx => by
    rw [flN] at hx
    rcases List.mem_or_eq_of_mem_set hx with hx | rfl
    · exact flN_lt ws k x hx
    · exact flatN_lt ws k
theorem flN_at (ws : List Nat) : ∀ k i, i < 32 → byteAt (flN ws k) i = if i < k then flatN ws i else 0
  | 0, i, hi => by
    unfold byteAt
    rw [flN, List.getD_eq_getElem?_getD, List.getElem?_replicate, if_pos hi, if_neg (by omega)]
    rfl
  | k + 1, i, hi => by
    have h := flN_at ws k i hi
    unfold byteAt at h ⊢
    rw [flN, List.getD_eq_getElem?_getD, List.getElem?_set]
    rw [List.getD_eq_getElem?_getD] at h
    by_cases he : k = i
    · subst he
      rw [if_pos rfl, if_pos (by rw [flN_length]; exact hi), if_pos (by omega)]
      rfl
    · rw [if_neg he, h]
      by_cases hk : i < k
      · rw [if_pos hk, if_pos (by omega)]
      · rw [if_neg hk, if_neg (by omega)]
attribute [irreducible] kL flN fillN extN roundsN schedN
end Go.Proofs.YtihpfkkbnbjboaaDoor
