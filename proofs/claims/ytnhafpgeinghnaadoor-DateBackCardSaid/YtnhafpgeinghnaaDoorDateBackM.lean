/-
  Plain mathematics of package date: what is printed is parsed as it was.
-/
import Derived.Test.YtnhafpgeinghnaaDoorDateRes
namespace Go.Proofs.YtnhafpgeinghnaaDoor
open Go.RowKit
set_option linter.unusedVariables false
set_option linter.unusedSimpArgs false

theorem mask37 (t : Int) : ∃ n : Nat, n < 137438953472 ∧ bits .and .i64 t 137438953471 = (n : Int) := by
  have hb : (BitVec.ofInt 64 t &&& BitVec.ofInt 64 137438953471).toNat < 137438953472 := by
    rw [BitVec.toNat_and, show (BitVec.ofInt 64 137438953471).toNat = 137438953471 from by decide]
    have := Nat.and_le_right (n := (BitVec.ofInt 64 t).toNat) (m := 137438953471)
    omega
  refine ⟨_, hb, ?_⟩
  show IntKind.i64.wrap ((BitVec.ofInt 64 t &&& BitVec.ofInt 64 137438953471).toNat : Int) = _
  exact IntWalk.i64_in _ (by omega)
theorem mask36 (t : Int) : ∃ n : Nat, n < 68719476736 ∧ bits .and .i64 t 68719476735 = (n : Int) := by
  have hb : (BitVec.ofInt 64 t &&& BitVec.ofInt 64 68719476735).toNat < 68719476736 := by
    rw [BitVec.toNat_and, show (BitVec.ofInt 64 68719476735).toNat = 68719476735 from by decide]
    have := Nat.and_le_right (n := (BitVec.ofInt 64 t).toNat) (m := 68719476735)
    omega
  refine ⟨_, hb, ?_⟩
  show IntKind.i64.wrap ((BitVec.ofInt 64 t &&& BitVec.ofInt 64 68719476735).toNat : Int) = _
  exact IntWalk.i64_in _ (by omega)

theorem digB_dig {n : Nat} (h : n < 10) : digB (48 + n) = true := digB_iff.2 (by omega)
theorem num_dig2 {n : Nat} (h : n < 100) : numOk (dig2 n) 2 2 = true ∧ valN (dig2 n) = n := by
  refine ⟨numOk_iff.2 ⟨Nat.le_refl _, Nat.le_refl _, ?_⟩, ?_⟩
  · show (digB (48 + n / 10) && (digB (48 + n % 10) && true)) = true
    rw [digB_dig (by omega), digB_dig (by omega)]; rfl
  · show ((0 * 10 + (48 + n / 10 - 48)) * 10 + (48 + n % 10 - 48)) = n
    omega
theorem two_dig2 {n b : Nat} (h : n < b) (hb : b ≤ 100) : twoOk (dig2 n) b = true ∧ valN (dig2 n) = n := by
  have := num_dig2 (n := n) (by omega)
  exact ⟨twoOk_iff.2 ⟨this.1, by rw [this.2]; exact h⟩, this.2⟩
theorem num_dig4 {n : Nat} (h : n < 10000) : numOk (dig4 n) 4 4 = true ∧ valN (dig4 n) = n := by
  refine ⟨numOk_iff.2 ⟨Nat.le_refl _, Nat.le_refl _, ?_⟩, ?_⟩
  · show (digB (48 + n / 1000) && (digB (48 + n / 100 % 10) && (digB (48 + n / 10 % 10) && (digB (48 + n % 10) && true)))) = true
    rw [digB_dig (by omega), digB_dig (by omega), digB_dig (by omega), digB_dig (by omega)]; rfl
  · show ((((0 * 10 + (48 + n / 1000 - 48)) * 10 + (48 + n / 100 % 10 - 48)) * 10 + (48 + n / 10 % 10 - 48)) * 10 + (48 + n % 10 - 48)) = n
    omega
theorem num_pad {n : Nat} (h1 : 1 ≤ n) (h : n < 100) : numOk (trimB (padN 32 n)) 1 2 = true ∧ valN (trimB (padN 32 n)) = n := by
  unfold padN
  by_cases h10 : n < 10
  · rw [if_pos h10]
    have e : trimB [32, 48 + n] = [48 + n] := rfl
    rw [e]
    refine ⟨numOk_iff.2 ⟨Nat.le_refl _, by show 1 ≤ 2; omega, ?_⟩, ?_⟩
    · show (digB (48 + n) && true) = true
      rw [digB_dig h10]; rfl
    · show (0 * 10 + (48 + n - 48)) = n
      omega
  · rw [if_neg h10]
    have e : trimB (dig2 n) = dig2 n := by
      unfold trimB
      rw [if_neg]
      show ¬ some (48 + n / 10) = some 32
      intro e
      injection e with e
      omega
    rw [e]
    have := num_dig2 h
    exact ⟨numOk_iff.2 ⟨by show 1 ≤ 2; omega, Nat.le_refl _, (numOk_iff.1 this.1).2.2⟩, this.2⟩
theorem split_clock (h i s : Nat) (h1 : h < 100) (h2 : i < 100) (h3 : s < 100) : splitL 58 (dig2 h ++ [58] ++ dig2 i ++ [58] ++ dig2 s) = [dig2 h, dig2 i, dig2 s] := by
  have ne : ∀ n, n < 100 → ∀ x ∈ dig2 n, x ≠ 58 := by
    intro n hn x hx
    simp only [dig2, List.mem_cons, List.not_mem_nil, or_false] at hx
    omega
  have e : dig2 h ++ [58] ++ dig2 i ++ [58] ++ dig2 s = dig2 h ++ 58 :: (dig2 i ++ 58 :: dig2 s) := by simp
  rw [e, splitL_hit _ (ne h h1), splitL_hit _ (ne i h2), splitL_none (ne s h3)]

def dtxL (y d h mi s : Nat) (mo Z : List Nat) : List Nat :=
  padN 32 d ++ [45] ++ mo ++ [45] ++ dig4 y ++ [32] ++ (dig2 h ++ [58] ++ dig2 mi ++ [58] ++ dig2 s) ++ ([32] ++ Z)
theorem len2 {l : List Nat} (h : l.length = 2) : ∃ a b, l = [a, b] := by
  match l, h with
  | [a, b], _ => exact ⟨a, b, rfl⟩
theorem len3 {l : List Nat} (h : l.length = 3) : ∃ a b c, l = [a, b, c] := by
  match l, h with
  | [a, b, c], _ => exact ⟨a, b, c, rfl⟩
theorem len5 {l : List Nat} (h : l.length = 5) : ∃ a b c d e, l = [a, b, c, d, e] := by
  match l, h with
  | [a, b, c, d, e], _ => exact ⟨a, b, c, d, e, rfl⟩
theorem text_parts (y d h mi s : Nat) (mo Z : List Nat) (hmo : mo.length = 3) (hZ : Z.length = 5) :
    (dtxL y d h mi s mo Z).length = 26 ∧ posB (dtxL y d h mi s mo Z) = true ∧ (dtxL y d h mi s mo Z).take 2 = padN 32 d ∧ ((dtxL y d h mi s mo Z).take 6).drop 3 = mo ∧ ((dtxL y d h mi s mo Z).take 11).drop 7 = dig4 y ∧
    ((dtxL y d h mi s mo Z).take 20).drop 12 = dig2 h ++ [58] ++ dig2 mi ++ [58] ++ dig2 s ∧ (dtxL y d h mi s mo Z).drop 21 = Z := by
  unfold dtxL
  obtain ⟨p0, p1, hp⟩ := len2 (padN_len 32 d)
  obtain ⟨m0, m1, m2, rfl⟩ := len3 hmo
  obtain ⟨z0, z1, z2, z3, z4, rfl⟩ := len5 hZ
  rw [hp]
  exact ⟨rfl, rfl, rfl, rfl, rfl, rfl, rfl⟩
theorem parse_text {y m d h mi s : Nat} {mo Z : List Nat} (hth : thereB y m d = true) (hy : y < 10000) (hh : h < 24) (hmi : mi < 60) (hs : s < 60) (hmo : mo.length = 3) (hmn : monN mo = m) (hZ : zoneOk Z = true) :
    parseR (dtxL y d h mi s mo Z) = rangeR (timeN y m d h mi s - zoneV Z) := by
  obtain ⟨g1, g2, g3, g4⟩ := there_iff.1 hth
  have hmb := mDays_bd y m
  obtain ⟨e1, e2, e3, e4, e5, e6, e7⟩ := text_parts y d h mi s mo Z hmo (zoneOk_iff.1 hZ).1
  have hd := num_pad g3 (n := d) (by omega)
  have h4 := num_dig4 hy
  have hyo : dtsOk (dtxL y d h mi s mo Z) = true := by
    unfold dtsOk
    rw [e3, e4, e5]
    exact ymdOk_iff.2 ⟨hd.1, by rw [hmn]; omega, h4.1, by rw [hmn, h4.2, hd.2]; exact hth⟩
  have hyv : dtsV (dtxL y d h mi s mo Z) = dayN y m d := by
    unfold dtsV ymdV
    rw [e3, e4, e5, hmn, h4.2, hd.2]
  have hc : clsL (dtxL y d h mi s mo Z) = [dig2 h, dig2 mi, dig2 s] := by
    unfold clsL
    rw [e6, split_clock h mi s (by omega) (by omega) (by omega)]
  have c1 := two_dig2 hh (by omega)
  have c2 := two_dig2 hmi (by omega)
  have c3 := two_dig2 hs (by omega)
  have hco : clkOk true (clsL (dtxL y d h mi s mo Z)) = true := by
    rw [hc]
    show (twoOk (dig2 h) 24 && twoOk (dig2 mi) 60 && twoOk (dig2 s) 60) = true
    rw [c1.1, c2.1, c3.1]; rfl
  have hcv : clkV (clsL (dtxL y d h mi s mo Z)) = h * 3600 + mi * 60 + s := by
    rw [hc]
    show valN (dig2 h) * 3600 + valN (dig2 mi) * 60 + valN (dig2 s) = _
    rw [c1.2, c2.2, c3.2]
  have hok : parseOk (dtxL y d h mi s mo Z) = true := by
    unfold parseOk
    rw [e2, hyo, hco, e7, hZ]; rfl
  have hv : parseV (dtxL y d h mi s mo Z) = timeN y m d h mi s - zoneV Z := by
    unfold parseV timeN
    rw [hyv, hcv, e7]
    omega
  unfold parseR
  rw [if_pos e1, if_pos hok, hv]
theorem print_text (y m d h mi s : Nat) : printL y m d h mi s = dtxL y d h mi s (monS m) [43, 48, 48, 48, 48] := rfl
theorem monN_monS {m : Nat} (h1 : 1 ≤ m) (h2 : m ≤ 12) : monN (monS m) = m := by
  rcases (by omega : m = 1 ∨ m = 2 ∨ m = 3 ∨ m = 4 ∨ m = 5 ∨ m = 6 ∨ m = 7 ∨ m = 8 ∨ m = 9 ∨ m = 10 ∨ m = 11 ∨ m = 12) with rfl | rfl | rfl | rfl | rfl | rfl | rfl | rfl | rfl | rfl | rfl | rfl <;> decide +kernel
theorem rangeR_in {t : Int} (h0 : 0 ≤ t) (h1 : t ≤ 253402300799) : rangeR t = (t, 0) := by unfold rangeR; rw [if_neg (by omega)]
theorem parse_print {y m d h mi s : Nat} (hth : thereB y m d = true) (hy1 : 1970 ≤ y) (hy : y ≤ 9999) (hh : h < 24) (hmi : mi < 60) (hs : s < 60) :
    parseR (printL y m d h mi s) = (timeN y m d h mi s, 0) := by
  obtain ⟨g1, g2, g3, g4⟩ := there_iff.1 hth
  have hbd := dayN_bd hth hy
  have hfr := dayN_from hth hy1
  rw [print_text, parse_text hth (by omega) hh hmi hs (monS_len g1 g2) (monN_monS g1 g2) (by decide +kernel), show zoneV [43, 48, 48, 48, 48] = 0 by decide +kernel, Int.sub_zero]
  exact rangeR_in (by unfold timeN; omega) (by unfold timeN; omega)
theorem padN_lt {n : Nat} (h : n < 100) : ∀ x ∈ padN 32 n, x < 256 := by
  unfold padN dig2
  split <;> (intro x hx; simp only [List.mem_cons, List.not_mem_nil, or_false] at hx; omega)
theorem dtxL_lt {y d h mi s : Nat} {mo Z : List Nat} (hd : d < 100) (hy : y < 10000) (hh : h < 100) (hmi : mi < 100) (hs : s < 100) (hmo : ∀ x ∈ mo, x < 256) (hZ : ∀ x ∈ Z, x < 256) : ∀ x ∈ dtxL y d h mi s mo Z, x < 256 := by
  intro x hx
  have h2 : ∀ n, n < 100 → x ∈ dig2 n → x < 256 := by
    intro n hn hq
    simp only [dig2, List.mem_cons, List.not_mem_nil, or_false] at hq
    omega
  have h4 : x ∈ dig4 y → x < 256 := by
    intro hq
    simp only [dig4, List.mem_cons, List.not_mem_nil, or_false] at hq
    omega
  unfold dtxL at hx
  simp only [List.mem_append, List.mem_cons, List.not_mem_nil, or_false] at hx
  rcases hx with ((((((hx | hx) | hx) | hx) | hx) | hx) | hx) | hx | hx
  · exact padN_lt hd x hx
  · omega
  · exact hmo x hx
  · omega
  · exact h4 hx
  · omega
  · rcases hx with (((hx | hx) | hx) | hx) | hx
    · exact h2 h hh hx
    · omega
    · exact h2 mi hmi hx
    · omega
    · exact h2 s hs hx
  · omega
  · exact hZ x hx
/-- any time is some date's -/
theorem time_ex (t : Nat) (h : t ≤ 253402300799) : ∃ y m d hh mi s : Nat, 1970 ≤ y ∧ y ≤ 9999 ∧ thereB y m d = true ∧ hh < 24 ∧ mi < 60 ∧ s < 60 ∧ (t : Int) = timeN y m d hh mi s ∧ dayOf t = dayN y m d := by
  obtain ⟨y, m, d, h1, h2, h3, h4⟩ := civil_ex (t / 86400) (by omega)
  refine ⟨y, m, d, t % 86400 / 3600, t % 3600 / 60, t % 60, h1, h2, h3, by omega, by omega, by omega, ?_, ?_⟩
  · unfold timeN
    rw [h4]
    omega
  · unfold dayOf
    rw [if_neg (by omega), h4]
    omega
end Go.Proofs.YtnhafpgeinghnaaDoor
