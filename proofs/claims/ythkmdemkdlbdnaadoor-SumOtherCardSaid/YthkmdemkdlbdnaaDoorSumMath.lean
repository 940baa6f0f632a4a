/-
  The plain mathematics of the sum (CRC-32): one step, eight steps, the sum of bytes behind a sum; that they are linear over exclusive or and one to one, and what half a byte does. Nothing here speaks of a program.
-/
import Derived.Below
namespace Go.Proofs.YthkmdemkdlbdnaaDoor

def polyC : Nat := 0xedb88320
def step1 (s : Nat) : Nat := if s % 2 = 1 then (s / 2) ^^^ polyC else s / 2
def stepN : Nat → Nat → Nat
  | 0, s => s
  | k + 1, s => stepN k (step1 s)
/-- the state behind the bytes l, from the state s -/
def runC : Nat → List Nat → Nat
  | s, [] => s
  | s, b :: r => runC (stepN 8 (s ^^^ b)) r
def onesC : Nat := 0xffffffff
def moreC (s : Nat) (l : List Nat) : Nat := runC (s ^^^ onesC) l ^^^ onesC

theorem xor_half (a b : Nat) : (a ^^^ b) / 2 = a / 2 ^^^ b / 2 := by
  apply Nat.eq_of_testBit_eq
  intro i
  simp [Nat.testBit_div_two]
theorem xor_mod2 (a b : Nat) : (a ^^^ b) % 2 = (a % 2 + b % 2) % 2 := by
  have h := Nat.testBit_xor a b 0
  simp only [Nat.testBit_zero] at h
  have h1 := Nat.mod_two_eq_zero_or_one a
  have h2 := Nat.mod_two_eq_zero_or_one b
  have h3 := Nat.mod_two_eq_zero_or_one (a ^^^ b)
  rcases h1 with h1 | h1 <;> rcases h2 with h2 | h2 <;> rcases h3 with h3 | h3 <;> simp [h1, h2, h3] at h ⊢
theorem step1_xor (a b : Nat) : step1 (a ^^^ b) = step1 a ^^^ step1 b := by
  unfold step1
  have h := xor_mod2 a b
  rw [xor_half]
  rcases Nat.mod_two_eq_zero_or_one a with h1 | h1 <;> rcases Nat.mod_two_eq_zero_or_one b with h2 | h2
  · rw [if_neg (by omega), if_neg (by omega), if_neg (by omega)]
  · rw [if_pos (by omega), if_neg (by omega), if_pos (by omega), Nat.xor_assoc]
  · rw [if_pos (by omega), if_pos (by omega), if_neg (by omega), Nat.xor_assoc, Nat.xor_assoc, Nat.xor_comm polyC]
  · rw [if_neg (by omega), if_pos (by omega), if_pos (by omega), Nat.xor_assoc, Nat.xor_comm polyC, Nat.xor_assoc, Nat.xor_self, Nat.xor_zero]
theorem step1_lt {s : Nat} (h : s < 4294967296) : step1 s < 4294967296 := by
  unfold step1
  split
  · exact Nat.xor_lt_two_pow (n := 32) (by omega) (by decide)
  · omega
theorem step1_zero {s : Nat} (h : s < 4294967296) (h0 : step1 s = 0) : s = 0 := by
  unfold step1 at h0
  split at h0
  · have : s / 2 = polyC := by
      have e : s / 2 ^^^ polyC ^^^ polyC = 0 ^^^ polyC := by rw [h0]
      rwa [Nat.xor_assoc, Nat.xor_self, Nat.xor_zero, Nat.zero_xor] at e
    unfold polyC at this
    omega
  · omega
theorem stepN_xor : ∀ (k a b : Nat), stepN k (a ^^^ b) = stepN k a ^^^ stepN k b
  | 0, _, _ => rfl
  | k + 1, a, b => by unfold stepN; rw [step1_xor, stepN_xor k]
theorem stepN_lt : ∀ (k : Nat) {s : Nat}, s < 4294967296 → stepN k s < 4294967296
  | 0, _, h => h
  | k + 1, _, h => stepN_lt k (step1_lt h)
theorem stepN_zero : ∀ (k : Nat) {s : Nat}, s < 4294967296 → stepN k s = 0 → s = 0
  | 0, _, _, h => h
  | k + 1, _, hs, h => step1_zero hs (stepN_zero k (step1_lt hs) h)
theorem stepN_add : ∀ (j k s : Nat), stepN (j + k) s = stepN k (stepN j s)
  | 0, k, s => by rw [Nat.zero_add]; rfl
  | j + 1, k, s => by rw [Nat.succ_add]; exact stepN_add j k (step1 s)
theorem xor_eq_zero' {a b : Nat} (h : a ^^^ b = 0) : a = b := by
  have e : a ^^^ b ^^^ b = 0 ^^^ b := by rw [h]
  rwa [Nat.xor_assoc, Nat.xor_self, Nat.xor_zero, Nat.zero_xor] at e
theorem stepN_inj (k : Nat) {a b : Nat} (ha : a < 4294967296) (hb : b < 4294967296) (h : stepN k a = stepN k b) : a = b := by
  refine xor_eq_zero' (stepN_zero k (Nat.xor_lt_two_pow (n := 32) ha hb) ?_)
  rw [stepN_xor, h, Nat.xor_self]

theorem byte_lt {s b : Nat} (hs : s < 4294967296) (hb : b < 256) : s ^^^ b < 4294967296 := Nat.xor_lt_two_pow (n := 32) hs (by omega)
theorem runC_lt : ∀ (l : List Nat) {s : Nat}, s < 4294967296 → (∀ b ∈ l, b < 256) → runC s l < 4294967296
  | [], _, h, _ => h
  | b :: r, _, h, hb => runC_lt r (stepN_lt 8 (byte_lt h (hb b (by simp)))) (fun x hx => hb x (by simp [hx]))
theorem runC_append : ∀ (l m : List Nat) (s : Nat), runC s (l ++ m) = runC (runC s l) m
  | [], _, _ => rfl
  | _ :: r, m, _ => runC_append r m _
theorem runC_inj : ∀ (l : List Nat) {a b : Nat}, a < 4294967296 → b < 4294967296 → (∀ x ∈ l, x < 256) → runC a l = runC b l → a = b
  | [], _, _, _, _, _, h => h
  | x :: r, a, b, ha, hb, hx, h => by
    have h8 : x < 256 := hx x (by simp)
    have e := runC_inj r (stepN_lt 8 (byte_lt ha h8)) (stepN_lt 8 (byte_lt hb h8)) (fun y hy => hx y (by simp [hy])) h
    have e2 := stepN_inj 8 (byte_lt ha h8) (byte_lt hb h8) e
    have e3 : a ^^^ x ^^^ x = b ^^^ x ^^^ x := by rw [e2]
    rwa [Nat.xor_assoc, Nat.xor_assoc, Nat.xor_self, Nat.xor_zero, Nat.xor_zero] at e3
theorem ones_lt : onesC < 4294967296 := by decide
theorem xor_ones_inj {a b : Nat} (h : a ^^^ onesC = b ^^^ onesC) : a = b := by
  have e : a ^^^ onesC ^^^ onesC = b ^^^ onesC ^^^ onesC := by rw [h]
  rwa [Nat.xor_assoc, Nat.xor_assoc, Nat.xor_self, Nat.xor_zero, Nat.xor_zero] at e
theorem moreC_lt (l : List Nat) {s : Nat} (h : s < 4294967296) (hb : ∀ b ∈ l, b < 256) : moreC s l < 4294967296 :=
  Nat.xor_lt_two_pow (n := 32) (runC_lt l (Nat.xor_lt_two_pow (n := 32) h ones_lt) hb) ones_lt
theorem moreC_append (l m : List Nat) (s : Nat) : moreC s (l ++ m) = moreC (moreC s l) m := by
  unfold moreC
  rw [runC_append, Nat.xor_assoc (runC _ _), Nat.xor_self, Nat.xor_zero]
theorem moreC_nil (s : Nat) : moreC s [] = s := by
  show s ^^^ onesC ^^^ onesC = s
  rw [Nat.xor_assoc, Nat.xor_self, Nat.xor_zero]

/-- one byte that is another one -/
theorem moreC_other (s : Nat) (l m : List Nat) (x y : Nat) (hs : s < 4294967296) (hl : ∀ b ∈ l, b < 256) (hm : ∀ b ∈ m, b < 256) (hx : x < 256) (hy : y < 256) : moreC s (l ++ x :: m) = moreC s (l ++ y :: m) ↔ x = y := by
  constructor
  · intro h
    unfold moreC at h
    have h := xor_ones_inj h
    rw [runC_append, runC_append] at h
    have hr := runC_lt l (Nat.xor_lt_two_pow (n := 32) hs ones_lt) hl
    have e := runC_inj m (stepN_lt 8 (byte_lt hr hx)) (stepN_lt 8 (byte_lt hr hy)) hm h
    have e2 := stepN_inj 8 (byte_lt hr hx) (byte_lt hr hy) e
    have e3 : ∀ r : Nat, r ^^^ x = r ^^^ y → x = y := fun r hr => by
      have e4 : r ^^^ (r ^^^ x) = r ^^^ (r ^^^ y) := by rw [hr]
      rwa [← Nat.xor_assoc, ← Nat.xor_assoc, Nat.xor_self, Nat.zero_xor, Nat.zero_xor] at e4
    exact e3 _ e2
  · rintro rfl; rfl

theorem fix8 : ∀ x, x < 256 → stepN 8 x = x → x = 0 := by decide +kernel
/-- two bytes that change places -/
theorem moreC_swap (s : Nat) (l m : List Nat) (x y : Nat) (hs : s < 4294967296) (hl : ∀ b ∈ l, b < 256) (hm : ∀ b ∈ m, b < 256) (hx : x < 256) (hy : y < 256) : moreC s (l ++ x :: y :: m) = moreC s (l ++ y :: x :: m) ↔ x = y := by
  constructor
  · intro h
    unfold moreC at h
    have h := xor_ones_inj h
    rw [runC_append, runC_append] at h
    have hr := runC_lt l (Nat.xor_lt_two_pow (n := 32) hs ones_lt) hl
    have l1 := stepN_lt 8 (byte_lt hr hx)
    have l2 := stepN_lt 8 (byte_lt hr hy)
    have e := runC_inj m (stepN_lt 8 (byte_lt l1 hy)) (stepN_lt 8 (byte_lt l2 hx)) hm h
    have e2 := stepN_inj 8 (byte_lt l1 hy) (byte_lt l2 hx) e
    have gen : ∀ r : Nat, stepN 8 (r ^^^ x) ^^^ y = stepN 8 (r ^^^ y) ^^^ x → stepN 8 (x ^^^ y) = x ^^^ y := by
      intro r h
      rw [stepN_xor, stepN_xor] at h
      rw [stepN_xor]
      have h2 : stepN 8 r ^^^ (stepN 8 r ^^^ stepN 8 x ^^^ y) ^^^ (stepN 8 y ^^^ y) = stepN 8 r ^^^ (stepN 8 r ^^^ stepN 8 y ^^^ x) ^^^ (stepN 8 y ^^^ y) := by rw [h]
      have c : ∀ p q t u : Nat, p ^^^ (p ^^^ q ^^^ t) ^^^ (u ^^^ t) = q ^^^ u := by
        intro p q t u
        apply Nat.eq_of_testBit_eq
        intro i
        simp only [Nat.testBit_xor]
        cases p.testBit i <;> cases q.testBit i <;> cases t.testBit i <;> cases u.testBit i <;> rfl
      have c2 : ∀ p q t u : Nat, p ^^^ (p ^^^ q ^^^ t) ^^^ (q ^^^ u) = t ^^^ u := by
        intro p q t u
        apply Nat.eq_of_testBit_eq
        intro i
        simp only [Nat.testBit_xor]
        cases p.testBit i <;> cases q.testBit i <;> cases t.testBit i <;> cases u.testBit i <;> rfl
      rw [c, c2] at h2
      exact h2
    have hz := fix8 (x ^^^ y) (Nat.xor_lt_two_pow (n := 8) hx hy) (gen _ e2)
    exact xor_eq_zero' hz
  · rintro rfl; rfl

/-! ### half a byte at a time -/
def tabC (r : Nat) : Nat := stepN 4 r
theorem xor_split (x : Nat) : x = (x / 16 * 16) ^^^ (x % 16) := by
  have h : x / 16 * 16 + x % 16 = (x / 16 * 16) ^^^ (x % 16) := by
    have := Nat.two_pow_add_eq_or_of_lt (i := 4) (b := x % 16) (Nat.mod_lt _ (by omega)) (x / 16)
    rw [Nat.mul_comm] at this
    rw [show x / 16 * 16 = x / 16 * 2 ^ 4 from rfl, this]
    apply Nat.eq_of_testBit_eq
    intro i
    rw [Nat.testBit_or, Nat.testBit_xor]
    by_cases hi : i < 4
    · have : (x / 16 * 2 ^ 4).testBit i = false := by
        rw [Nat.testBit_mul_two_pow]
        simp; omega
      rw [this]; simp
    · have : (x % 16).testBit i = false := by
        apply Nat.testBit_lt_two_pow
        exact Nat.lt_of_lt_of_le (Nat.mod_lt _ (by omega)) (Nat.pow_le_pow_right (n := 2) (by omega) (show 4 ≤ i by omega))
      rw [this]; simp
  rw [← h]
  omega
theorem step1_even (q : Nat) : step1 (2 * q) = q := by
  unfold step1
  rw [if_neg (by omega)]
  omega
theorem stepN4_mul (q : Nat) : stepN 4 (q * 16) = q := by
  have e : q * 16 = 2 * (2 * (2 * (2 * q))) := by omega
  rw [e]
  show step1 (step1 (step1 (step1 _))) = q
  rw [step1_even, step1_even, step1_even, step1_even]
theorem half4 (x : Nat) : stepN 4 x = (x / 16) ^^^ tabC (x % 16) := by
  have h := xor_split x
  calc stepN 4 x = stepN 4 ((x / 16 * 16) ^^^ (x % 16)) := by rw [← h]
    _ = _ := by rw [stepN_xor, stepN4_mul]; rfl
theorem step8_half (x : Nat) : stepN 8 x = stepN 4 (stepN 4 x) := stepN_add 4 4 x
end Go.Proofs.YthkmdemkdlbdnaaDoor
