/-
 A part of the proof: see the last text.
-/
import Derived.Below
import Derived.Test.YtcdehejgnnnimaaGreatDoorProg
import Derived.Test.YtcdehejgnnnimaaGreatDoorSBytes
import Derived.Laws.BitsAllLaws
import Derived.Lib.SlBytesConst
namespace Go.Proofs.YtcdehejgnnnimaaGreatDoor
set_option linter.unusedVariables false
set_option linter.unusedSimpArgs false
def polyC : Nat := 0xedb88320
def step1 (s : Nat) : Nat := if s % 2 = 1 then (s / 2) ^^^ polyC else s / 2
def stepN : Nat → Nat → Nat
 | 0, s => s
 | k + 1, s => stepN k (step1 s)
def runC : Nat → List Nat → Nat
 | s, [] => s
 | s, b :: r => runC (stepN 8 (s ^^^ b)) r
def onesC : Nat := 0xffffffff
def moreC (s : Nat) (l : List Nat) : Nat := runC (s ^^^ onesC) l ^^^ onesC
theorem xor_half (a b : Nat) : (a ^^^ b) / 2 = a / 2 ^^^ b / 2 := by
 apply Nat.eq_of_testBit_eq
 intro i
 simp [Nat.testBit_div_two]
theorem xor_mod2 (a b : Nat) : (a ^^^ b) % 2 = (a % 2 + b % 2) % 2 := by
 have h := Nat.testBit_xor a b 0
 simp only [Nat.testBit_zero] at h
 have h1 := Nat.mod_two_eq_zero_or_one a
 have h2 := Nat.mod_two_eq_zero_or_one b
 have h3 := Nat.mod_two_eq_zero_or_one (a ^^^ b)
 rcases h1 with h1 | h1 <;> rcases h2 with h2 | h2 <;> rcases h3 with h3 | h3 <;> simp [h1, h2, h3] at h ⊢
theorem step1_xor (a b : Nat) : step1 (a ^^^ b) = step1 a ^^^ step1 b := by
 unfold step1
 have h := xor_mod2 a b
 rw [xor_half]
 rcases Nat.mod_two_eq_zero_or_one a with h1 | h1 <;> rcases Nat.mod_two_eq_zero_or_one b with h2 | h2
 ·rw [if_neg (by omega), if_neg (by omega), if_neg (by omega)]
 ·rw [if_pos (by omega), if_neg (by omega), if_pos (by omega), Nat.xor_assoc]
 ·rw [if_pos (by omega), if_pos (by omega), if_neg (by omega), Nat.xor_assoc, Nat.xor_assoc, Nat.xor_comm polyC]
 ·rw [if_neg (by omega), if_pos (by omega), if_pos (by omega), Nat.xor_assoc, Nat.xor_comm polyC, Nat.xor_assoc, Nat.xor_self, Nat.xor_zero]
theorem step1_lt {s : Nat} (h : s < 4294967296) : step1 s < 4294967296 := by
 unfold step1
 split
 ·exact Nat.xor_lt_two_pow (n := 32) (by omega) (by decide)
 ·omega
theorem stepN_xor : ∀ (k a b : Nat), stepN k (a ^^^ b) = stepN k a ^^^ stepN k b
 | 0, _, _ => rfl
 | k + 1, a, b => by unfold stepN; rw [step1_xor, stepN_xor k]
theorem stepN_lt : ∀ (k : Nat) {s : Nat}, s < 4294967296 → stepN k s < 4294967296
 | 0, _, h => h
 | k + 1, _, h => stepN_lt k (step1_lt h)
theorem stepN_add : ∀ (j k s : Nat), stepN (j + k) s = stepN k (stepN j s)
 | 0, k, s => by rw [Nat.zero_add]; rfl
 | j + 1, k, s => by rw [Nat.succ_add]; exact stepN_add j k (step1 s)
theorem byte_lt {s b : Nat} (hs : s < 4294967296) (hb : b < 256) : s ^^^ b < 4294967296 := Nat.xor_lt_two_pow (n := 32) hs (by omega)
theorem runC_lt : ∀ (l : List Nat) {s : Nat}, s < 4294967296 → (∀ b ∈ l, b < 256) → runC s l < 4294967296
 | [], _, h, _ => h
 | b :: r, _, h, hb => runC_lt r (stepN_lt 8 (byte_lt h (hb b (by simp)))) (fun x hx => hb x (by simp [hx]))
theorem runC_append : ∀ (l m : List Nat) (s : Nat), runC s (l ++ m) = runC (runC s l) m
 | [], _, _ => rfl
 | _ :: r, m, _ => runC_append r m _
theorem ones_lt : onesC < 4294967296 := by decide
theorem moreC_lt (l : List Nat) {s : Nat} (h : s < 4294967296) (hb : ∀ b ∈ l, b < 256) : moreC s l < 4294967296 :=
 Nat.xor_lt_two_pow (n := 32) (runC_lt l (Nat.xor_lt_two_pow (n := 32) h ones_lt) hb) ones_lt
theorem moreC_append (l m : List Nat) (s : Nat) : moreC s (l ++ m) = moreC (moreC s l) m := by
 unfold moreC
 rw [runC_append, Nat.xor_assoc (runC _ _), Nat.xor_self, Nat.xor_zero]
theorem moreC_nil (s : Nat) : moreC s [] = s := by
 show s ^^^ onesC ^^^ onesC = s
 rw [Nat.xor_assoc, Nat.xor_self, Nat.xor_zero]
def tabC (r : Nat) : Nat := stepN 4 r
theorem xor_split (x : Nat) : x = (x / 16 * 16) ^^^ (x % 16) := by
 have h : x / 16 * 16 + x % 16 = (x / 16 * 16) ^^^ (x % 16) := by
  have := Nat.two_pow_add_eq_or_of_lt (i := 4) (b := x % 16) (Nat.mod_lt _ (by omega)) (x / 16)
  rw [Nat.mul_comm] at this
  rw [show x / 16 * 16 = x / 16 * 2 ^ 4 from rfl, this]
  apply Nat.eq_of_testBit_eq
  intro i
  rw [Nat.testBit_or, Nat.testBit_xor]
  by_cases hi : i < 4
  ·have : (x / 16 * 2 ^ 4).testBit i = false := by
    rw [Nat.testBit_mul_two_pow]
    simp; omega
   rw [this]; simp
  ·have : (x % 16).testBit i = false := by
    apply Nat.testBit_lt_two_pow
    exact Nat.lt_of_lt_of_le (Nat.mod_lt _ (by omega)) (Nat.pow_le_pow_right (n := 2) (by omega) (show 4 ≤ i by omega))
   rw [this]; simp
 rw [← h]
 omega
theorem step1_even (q : Nat) : step1 (2 * q) = q := by
 unfold step1
 rw [if_neg (by omega)]
 omega
theorem stepN4_mul (q : Nat) : stepN 4 (q * 16) = q := by
 have e : q * 16 = 2 * (2 * (2 * (2 * q))) := by omega
 rw [e]
 show step1 (step1 (step1 (step1 _))) = q
 rw [step1_even, step1_even, step1_even, step1_even]
theorem half4 (x : Nat) : stepN 4 x = (x / 16) ^^^ tabC (x % 16) := by
 have h := xor_split x
 calc stepN 4 x = stepN 4 ((x / 16 * 16) ^^^ (x % 16)) := by rw [← h]
  _ = _ := by rw [stepN_xor, stepN4_mul]; rfl
theorem step8_half (x : Nat) : stepN 8 x = stepN 4 (stepN 4 x) := stepN_add 4 4 x
end Go.Proofs.YtcdehejgnnnimaaGreatDoor
namespace Go.Proofs.YtcdehejgnnnimaaGreatDoor
set_option linter.unusedVariables false
set_option linter.unusedSimpArgs false
open Go.RowKit
def Tab (w : World) : Prop := ∀ r, r < 16 → w.cell? ⟨1, r, none⟩ = some (.int .u32 ((tabC r : Nat) : Int))
set_option maxHeartbeats 400000 in
theorem half_any (s : Nat) (w : World) (hs : s < 4294967296) (ht : Tab w) : Calls Tryz.prog 113 #[.int .u32 (s : Int)] w fun e w' => e = .returned (.int .u32 ((stepN 4 s : Nat) : Int)) ∧ w = w' := by
 have hc := ht (s % 16) (by omega)
 have hand : bits .and .u32 (s : Int) 15 = ((s % 16 : Nat) : Int) := by
  have := u32_and_nat s 15 hs (by omega)
  rw [nat_mask4] at this
  exact this
 go_enter Tryz.func113, Tryz.ntmps113
 go_wp2
 go_ret
 refine ⟨ret_int ?_, rfl⟩
 rw [show ((s : Int) / 16) = ((s / 16 : Nat) : Int) from rfl, half4, ← u32_xor_nat _ _ (by omega) (show tabC (s % 16) < 4294967296 from stepN_lt 4 (by omega))]
theorem runC_snoc (s : Nat) (l : List Nat) (b : Nat) : runC s (l ++ [b]) = stepN 8 (runC s l ^^^ b) := by rw [runC_append]; rfl
theorem runC_take (s : Nat) (l : List Nat) (k : Nat) (h : k < l.length) : stepN 4 (stepN 4 (runC s (l.take k) ^^^ byteAt l k)) = runC s (l.take (k + 1)) := by
 rw [take_snoc' l k h, runC_snoc, ← step8_half]
theorem runC_take_lt {s : Nat} {l : List Nat} (hs : s < 4294967296) (hl : ∀ x ∈ l, x < 256) (k : Nat) : runC s (l.take k) < 4294967296 :=
 runC_lt _ hs (fun x hx => hl x (List.mem_of_mem_take hx))
theorem u32_ones (s : Nat) (hs : s < 4294967296) : bits .xor .u32 IntKind.u32.max (s : Int) = ((s ^^^ onesC : Nat) : Int) := by
 have := u32_xor_nat 4294967295 s (by omega) hs
 rw [Nat.xor_comm] at this
 exact this
set_option maxHeartbeats 400000 in
theorem more_any (s : Nat) (A : Option Addr) (n c B : Nat) (l : List Nat) (w : World) (hs : s < 4294967296) (hl : Bytes w B A n l) (hn : n ≤ maxLen) (ht : Tab w) :
 Calls Tryz.prog 105 #[.int .u32 (s : Int), .slice A n c] w fun e w' => e = .returned (.int .u32 ((moreC s l : Nat) : Int)) ∧ w = w' := by
 have hu := u32_ones s hs
 have hs' : s ^^^ onesC < 4294967296 := Nat.xor_lt_two_pow (n := 32) hs ones_lt
 generalize hx : s ^^^ onesC = x at hu hs'
 have HX := hide hx
 clear hx
 unfold maxLen at hn
 go_enter Tryz.func105, Tryz.ntmps105
 go_wp2
 go_loop [5, 12] (fun t i => ∃ k : Nat, k ≤ n ∧ i = .int .i64 k ∧ t = .int .u32 ((runC x (l.take k) : Nat) : Int)) (fun _ i => n - (intOf i).toNat)
 case atStart => exact ⟨0, Nat.zero_le _, rfl, rfl⟩
 case round =>
  obtain ⟨k, hk, rfl, rfl⟩ := hrel
  have hr := runC_take_lt hs' hl.2.1 k
  have hb := hl.lt k
  by_cases hlt : k < n
  ·obtain ⟨b, o, rfl, _, hc⟩ := hl.at_ hlt
   have hxr := u32_xor_nat (runC x (l.take k)) (byteAt l k) hr (by omega)
   have HR := hide (runC_take x l k (by rw [hl.1]; exact hlt))
   have hy : runC x (l.take k) ^^^ byteAt l k < 4294967296 := byte_lt hr hb
   generalize runC x (l.take k) ^^^ byteAt l k = y at hxr HR hy
   have hbi : (byteAt l k : Int) < 256 := by omega
   have hy4 := stepN_lt 4 hy
   go_wp2_with fail
   refine (half_any y _ hy ht).mono ?_
   rintro e w' ⟨rfl, rfl⟩
   go_wp2_with fail
   refine (half_any _ _ hy4 ht).mono ?_
   rintro e w' ⟨rfl, rfl⟩
   go_wp2
   go_round
   case rel => exact ⟨k + 1, by omega, by go_num, by rw [HR.out]⟩
   case measure => simp [intOf]; omega
  ·have hu2 := u32_ones (runC x (l.take k)) hr
   have HK := hide (show l.take k = l from List.take_of_length_le (by rw [hl.1]; omega))
   go_wp2
   go_ret
   exact ⟨ret_int (by rw [HK.out, ← HX.out]; rfl), rfl⟩
end Go.Proofs.YtcdehejgnnnimaaGreatDoor
namespace Go.Proofs.YtcdehejgnnnimaaGreatDoor
set_option linter.unusedVariables false
set_option linter.unusedSimpArgs false
open Go.RowKit
theorem Tab.below {w w' : World} {B : Nat} (h : Tab w) (hb : Below B w w') (hB : 1 < B) : Tab w' := fun r hr => (hb.cell (p := ⟨1, r, none⟩) hB).trans (h r hr)
theorem Tab.pos {w : World} (h : Tab w) : 1 < w.heap.size := block_lt_of_cell (h 0 (by omega))
theorem Tab.alloc {w : World} (h : Tab w) (o : Obj) : Tab (w.alloc o) := fun r hr => (World.cell?_alloc_lt w o ⟨1, r, none⟩ h.pos).trans (h r hr)
theorem moreC_take_lt {ls : List (List Nat)} (h : ∀ l ∈ ls, ∀ x ∈ l, x < 256) (k : Nat) : moreC 0 (ls.take k).flatten < 4294967296 := by
 refine moreC_lt _ (by omega) (fun b hb => ?_)
 obtain ⟨l, hl, hb⟩ := List.mem_flatten.1 hb
 exact h l (List.mem_of_mem_take hl) b hb
theorem Bss.bytes {w : World} {B n : Nat} {A : Option Addr} {ls : List (List Nat)} (h : Bss w B A n ls) : ∀ l ∈ ls, ∀ x ∈ l, x < 256 := by
 intro l hl x hx
 obtain ⟨i, hi, rfl⟩ := List.mem_iff_getElem.1 hl
 obtain ⟨b, o, A', n', c', _, _, _, _, hy⟩ := h.at_ (k := i) (by rw [← h.1]; exact hi)
 have e : textAt ls i = ls[i] := by simp [textAt, hi]
 rw [e] at hy
 exact hy.2.1 x hx
set_option maxHeartbeats 400000 in
theorem join_any (A : Option Addr) (n c B : Nat) (ls : List (List Nat)) (w : World) (hl : Bss w B A n ls) (hn : n ≤ maxLen) (ht : Tab w) :
 Calls Tryz.prog 87 #[.slice A n c] w fun e w' => e = .returned (.int .u32 ((moreC 0 ls.flatten : Nat) : Int)) ∧ w = w' := by
 unfold maxLen at hn
 have hby := hl.bytes
 go_enter Tryz.func87, Tryz.ntmps87
 go_wp2
 go_loop [3, 8] (fun t i => ∃ k : Nat, k ≤ n ∧ i = .int .i64 k ∧ t = .int .u32 ((moreC 0 (ls.take k).flatten : Nat) : Int)) (fun _ i => n - (intOf i).toNat)
 case atStart => exact ⟨0, Nat.zero_le _, rfl, by rw [show moreC 0 (ls.take 0).flatten = 0 from moreC_nil 0]; rfl⟩
 case round =>
  obtain ⟨k, hk, rfl, rfl⟩ := hrel
  have hr := moreC_take_lt hby k
  by_cases hlt : k < n
  ·obtain ⟨b, o, A', n', c', rfl, _, hc, hn', hy⟩ := hl.at_ hlt
   have HR := hide (moreC_append (ls.take k).flatten (textAt ls k) 0)
   have HF := hide (flatten_take_snoc ls k (by rw [hl.1]; exact hlt))
   go_wp2_with fail
   refine (more_any _ A' n' c' B _ _ hr hy (by unfold maxLen; omega) ht).mono ?_
   rintro e w' ⟨rfl, rfl⟩
   go_wp2
   go_round
   case rel => exact ⟨k + 1, by omega, by go_num, by rw [HF.out, HR.out]⟩
   case measure => simp [intOf]; omega
  ·have HK := hide (show ls.take k = ls from List.take_of_length_le (by rw [hl.1]; omega))
   go_wp2
   go_ret
   exact ⟨ret_int (by rw [HK.out]), rfl⟩
set_option maxHeartbeats 400000 in
theorem sum_any (A : Option Addr) (n c : Nat) (l : List Nat) (w : World) (hl : Bytes w w.heap.size A n l) (hn : n ≤ 140737488355328) (ht : Tab w) :
 Calls Tryz.prog 71 #[.slice A n c] w fun e w' => e = .returned (.int .u32 ((moreC 0 l : Nat) : Int)) ∧ Below w.heap.size w w' := by
 go_enter Tryz.func71, Tryz.ntmps71
 go_wp2_with fail
 refine (join_any _ 1 1 _ [l] _ (Bss.one w hl hn (Nat.le_refl _) _) (by unfold maxLen; omega) (ht.alloc _)).mono ?_
 rintro e w' ⟨rfl, rfl⟩
 go_wp2
 go_ret
 exact ⟨ret_int (by simp), (Below.refl _ _).alloc (Nat.le_refl _) _⟩
end Go.Proofs.YtcdehejgnnnimaaGreatDoor
