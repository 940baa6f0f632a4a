/-
  Plain mathematics of package date: the calendar; digits; months' names; what texts are dates, clocks, zones. Nothing here speaks of a program.
-/
import Derived.Test.YtkalnaidccgbiaaPackMath
namespace Go.Proofs.Ytkalnaidccgbiaa
set_option linter.unusedVariables false
set_option linter.unusedSimpArgs false

/-! ### The calendar -/
def isLeap (y : Nat) : Bool := decide (y % 4 = 0 ∧ (y % 100 ≠ 0 ∨ y % 400 = 0))
def mDays (y m : Nat) : Nat := if m = 2 then (if isLeap y then 29 else 28) else if m = 4 ∨ m = 6 ∨ m = 9 ∨ m = 11 then 30 else 31
def yDays (y : Nat) : Nat := if isLeap y then 366 else 365
def ahead (y : Nat) : Nat := y * 365 + (y + 3) / 4 + (y + 399) / 400 - (y + 99) / 100
def mSum (y : Nat) : Nat → Nat
  | 0 => 0
  | k + 1 => mSum y k + mDays y (k + 1)
def dayN (y m d : Nat) : Int := (ahead y : Int) + mSum y (m - 1) + d - 1 - 719528
def thereB (y m d : Nat) : Bool := decide (1 ≤ m ∧ m ≤ 12 ∧ 1 ≤ d ∧ d ≤ mDays y m)

theorem there_iff {y m d : Nat} : thereB y m d = true ↔ (1 ≤ m ∧ m ≤ 12 ∧ 1 ≤ d ∧ d ≤ mDays y m) := by unfold thereB; exact decide_eq_true_iff
theorem mDays_bd (y m : Nat) : 28 ≤ mDays y m ∧ mDays y m ≤ 31 := by
  unfold mDays
  by_cases h : m = 2
  · rw [if_pos h]; split <;> omega
  · rw [if_neg h]; split <;> omega
theorem yDays_bd (y : Nat) : 365 ≤ yDays y ∧ yDays y ≤ 366 := by unfold yDays; split <;> omega
theorem ahead_succ (y : Nat) : ahead (y + 1) = ahead y + yDays y := by
  unfold ahead yDays isLeap
  split
  · rename_i h
    have := of_decide_eq_true h
    omega
  · rename_i h
    have : ¬ (y % 4 = 0 ∧ (y % 100 ≠ 0 ∨ y % 400 = 0)) := by simpa using h
    omega
theorem ahead_mono {a b : Nat} (h : a ≤ b) : ahead a ≤ ahead b := by
  induction b with
  | zero => obtain rfl : a = 0 := by omega
            exact Nat.le_refl _
  | succ b ih =>
    by_cases e : a = b + 1
    · rw [e]; exact Nat.le_refl _
    · have := ih (by omega)
      rw [ahead_succ]; omega
theorem ahead_1970 : ahead 1970 = 719528 := by decide
theorem ahead_10000 : ahead 10000 = 3652425 := by decide
theorem ahead_le {y : Nat} (h : y ≤ 10000) : ahead y ≤ 3652425 := by rw [← ahead_10000]; exact ahead_mono h
theorem mSum_12 (y : Nat) : mSum y 12 = yDays y := by
  cases h : isLeap y <;> simp [mSum, mDays, yDays, h]
theorem mSum_mono (y : Nat) {a b : Nat} (h : a ≤ b) : mSum y a ≤ mSum y b := by
  induction b with
  | zero => obtain rfl : a = 0 := by omega
            exact Nat.le_refl _
  | succ b ih =>
    by_cases e : a = b + 1
    · rw [e]; exact Nat.le_refl _
    · have := ih (by omega)
      show _ ≤ mSum y b + _; omega
theorem mSum_le (y : Nat) {k : Nat} (h : k ≤ 12) : mSum y k ≤ yDays y := by rw [← mSum_12]; exact mSum_mono y h
theorem mSum_prev (y : Nat) {m : Nat} (h : 1 ≤ m) : mSum y m = mSum y (m - 1) + mDays y m := by
  obtain ⟨k, rfl⟩ : ∃ k, m = k + 1 := ⟨m - 1, by omega⟩
  rfl
theorem dayN_in {y m d : Nat} (h : thereB y m d = true) : (ahead y : Int) - 719528 ≤ dayN y m d ∧ dayN y m d < (ahead (y + 1) : Int) - 719528 := by
  obtain ⟨h1, h2, h3, h4⟩ := there_iff.1 h
  have a := mSum_prev y h1
  have b := mSum_le y h2
  rw [ahead_succ]
  unfold dayN
  omega
theorem dayN_bd {y m d : Nat} (h : thereB y m d = true) (hy : y ≤ 9999) : -719528 ≤ dayN y m d ∧ dayN y m d ≤ 2932896 := by
  have a := dayN_in h
  have b := ahead_le (y := y + 1) (by omega)
  omega
theorem dayN_from {y m d : Nat} (h : thereB y m d = true) (hy : 1970 ≤ y) : 0 ≤ dayN y m d := by
  have a := dayN_in h
  have b := ahead_mono hy
  rw [ahead_1970] at b
  omega
theorem dayN_below {y m d : Nat} (h : thereB y m d = true) (hy : y < 1970) : dayN y m d < 0 := by
  have a := dayN_in h
  have b := ahead_mono (a := y + 1) (b := 1970) (by omega)
  rw [ahead_1970] at b
  omega
/-- one date is ahead of another one -/
def earlier (y m d y' m' d' : Nat) : Prop := y < y' ∨ (y = y' ∧ (m < m' ∨ (m = m' ∧ d < d')))
theorem dayN_lt {y m d y' m' d' : Nat} (h : thereB y m d = true) (h' : thereB y' m' d' = true) (e : earlier y m d y' m' d') : dayN y m d < dayN y' m' d' := by
  rcases e with e | ⟨rfl, e | ⟨rfl, e⟩⟩
  · have a := dayN_in h
    have b := dayN_in h'
    have c := ahead_mono (a := y + 1) (b := y') e
    omega
  · obtain ⟨h1, h2, h3, h4⟩ := there_iff.1 h
    obtain ⟨h1', h2', h3', h4'⟩ := there_iff.1 h'
    have a := mSum_prev y h1
    have b := mSum_mono y (a := m) (b := m' - 1) (by omega)
    unfold dayN
    omega
  · unfold dayN; omega
theorem earlier_iff {y m d y' m' d' : Nat} (h : thereB y m d = true) (h' : thereB y' m' d' = true) : earlier y m d y' m' d' ↔ dayN y m d < dayN y' m' d' := by
  refine ⟨dayN_lt h h', fun e => ?_⟩
  have g := fun x => dayN_lt h' h (x : earlier y' m' d' y m d)
  unfold earlier at g ⊢
  rcases Nat.lt_trichotomy y y' with a | a | a
  · exact .inl a
  · refine .inr ⟨a, ?_⟩
    rcases Nat.lt_trichotomy m m' with b | b | b
    · exact .inl b
    · refine .inr ⟨b, ?_⟩
      rcases Nat.lt_trichotomy d d' with c | c | c
      · exact c
      · subst a b c; omega
      · have := g (.inr ⟨a.symm, .inr ⟨b.symm, c⟩⟩); omega
    · have := g (.inr ⟨a.symm, .inl b⟩); omega
  · have := g (.inl a); omega
theorem dayN_inj {y m d y' m' d' : Nat} (h : thereB y m d = true) (h' : thereB y' m' d' = true) (e : dayN y m d = dayN y' m' d') : y = y' ∧ m = m' ∧ d = d' := by
  have a := fun x => dayN_lt h h' (x : earlier y m d y' m' d')
  have b := fun x => dayN_lt h' h (x : earlier y' m' d' y m d)
  unfold earlier at a b
  rcases Nat.lt_trichotomy y y' with c | c | c
  · have := a (.inl c); omega
  · rcases Nat.lt_trichotomy m m' with c' | c' | c'
    · have := a (.inr ⟨c, .inl c'⟩); omega
    · rcases Nat.lt_trichotomy d d' with c'' | c'' | c''
      · have := a (.inr ⟨c, .inr ⟨c', c''⟩⟩); omega
      · exact ⟨c, c', c''⟩
      · have := b (.inr ⟨c.symm, .inr ⟨c'.symm, c''⟩⟩); omega
    · have := b (.inr ⟨c.symm, .inl c'⟩); omega
  · have := b (.inl c); omega
theorem civil_ex : ∀ n : Nat, n ≤ 2932896 → ∃ y m d, 1970 ≤ y ∧ y ≤ 9999 ∧ thereB y m d = true ∧ dayN y m d = n
  | 0, _ => ⟨1970, 1, 1, by omega, by omega, by decide, by decide⟩
  | n + 1, hn => by
    obtain ⟨y, m, d, h1, h2, h3, h4⟩ := civil_ex n (by omega)
    obtain ⟨g1, g2, g3, g4⟩ := there_iff.1 h3
    have hp := mSum_prev y g1
    by_cases hd : d + 1 ≤ mDays y m
    · refine ⟨y, m, d + 1, h1, h2, there_iff.2 ⟨g1, g2, by omega, hd⟩, ?_⟩
      unfold dayN at h4 ⊢; omega
    · by_cases hm : m < 12
      · refine ⟨y, m + 1, 1, h1, h2, there_iff.2 ⟨by omega, by omega, by omega, by have := mDays_bd y (m + 1); omega⟩, ?_⟩
        unfold dayN at h4 ⊢
        rw [Nat.add_sub_cancel]
        omega
      · obtain rfl : m = 12 := by omega
        have hs := mSum_12 y
        have ha := ahead_succ y
        have hy : y < 9999 := by
          by_cases e : y = 9999
          · subst e
            have : ahead (9999 + 1) = 3652425 := ahead_10000
            unfold dayN at h4
            omega
          · omega
        refine ⟨y + 1, 1, 1, by omega, by omega, there_iff.2 ⟨by omega, by omega, by omega, by have := mDays_bd (y + 1) 1; omega⟩, ?_⟩
        unfold dayN at h4 ⊢
        simp only [Nat.sub_self, mSum]
        omega

/-- Number, of any three numbers -/
def thereZ (y : Nat) (m d : Int) : Bool := decide (1 ≤ m ∧ m ≤ 12 ∧ 1 ≤ d ∧ d ≤ (mDays y m.toNat : Int))
theorem thereZ_nat {y m d : Nat} : thereZ y (m : Int) (d : Int) = thereB y m d := by
  unfold thereZ thereB
  rw [Bool.eq_iff_iff, decide_eq_true_iff, decide_eq_true_iff, Int.toNat_natCast]
  omega

/-! ### Numbers -/
def digB (x : Nat) : Bool := decide (48 ≤ x) && decide (x ≤ 57)
theorem digB_iff {x : Nat} : digB x = true ↔ 48 ≤ x ∧ x ≤ 57 := by unfold digB; simp
def valN (l : List Nat) : Nat := l.foldl (fun n x => n * 10 + (x - 48)) 0
theorem valN_nil : valN [] = 0 := rfl
theorem valN_snoc (l : List Nat) (x : Nat) : valN (l ++ [x]) = valN l * 10 + (x - 48) := by unfold valN; rw [List.foldl_append]; rfl
theorem valN_lt (l : List Nat) : l.all digB = true → valN l < 10 ^ l.length := by
  induction l using snoc_ind with
  | h0 => intro _; simp [valN]
  | h1 l x ih =>
    intro h
    rw [List.all_append] at h
    simp only [Bool.and_eq_true, List.all_cons, List.all_nil, Bool.and_true] at h
    have a := ih h.1
    have b := digB_iff.1 h.2
    rw [valN_snoc, List.length_append, List.length_singleton, Nat.pow_succ]
    omega
def numOk (l : List Nat) (a b : Nat) : Bool := decide (a ≤ l.length) && decide (l.length ≤ b) && l.all digB
theorem numOk_iff {l : List Nat} {a b : Nat} : numOk l a b = true ↔ a ≤ l.length ∧ l.length ≤ b ∧ l.all digB = true := by
  unfold numOk; simp only [Bool.and_eq_true, decide_eq_true_iff]; exact ⟨fun ⟨⟨x, y⟩, z⟩ => ⟨x, y, z⟩, fun ⟨x, y, z⟩ => ⟨⟨x, y⟩, z⟩⟩
theorem numOk_lt {l : List Nat} {a b : Nat} (h : numOk l a b = true) : valN l < 10 ^ b := by
  obtain ⟨_, h2, h3⟩ := numOk_iff.1 h
  exact Nat.lt_of_lt_of_le (valN_lt l h3) (Nat.pow_le_pow_right (by omega) h2)
def twoOk (l : List Nat) (b : Nat) : Bool := numOk l 2 2 && decide (valN l < b)
theorem twoOk_iff {l : List Nat} {b : Nat} : twoOk l b = true ↔ numOk l 2 2 = true ∧ valN l < b := by unfold twoOk; simp

/-! ### Months -/
def monS : Nat → List Nat
  | 1 => [74, 97, 110] | 2 => [70, 101, 98] | 3 => [77, 97, 114] | 4 => [65, 112, 114] | 5 => [77, 97, 121] | 6 => [74, 117, 110]
  | 7 => [74, 117, 108] | 8 => [65, 117, 103] | 9 => [83, 101, 112] | 10 => [79, 99, 116] | 11 => [78, 111, 118] | 12 => [68, 101, 99]
  | _ => []
def smallN (x : Nat) : Nat := if 65 ≤ x ∧ x ≤ 90 then x + 32 else x
def sameB (a b : List Nat) : Bool := decide (a.map smallN = b.map smallN)
def monUp (l : List Nat) : Nat → Nat
  | 0 => 0
  | k + 1 => if monUp l k ≠ 0 then monUp l k else if sameB l (monS (k + 1)) then k + 1 else 0
def monN (l : List Nat) : Nat := monUp l 12
theorem monUp_le (l : List Nat) : ∀ k, monUp l k ≤ k
  | 0 => Nat.le_refl _
  | k + 1 => by
    have := monUp_le l k
    unfold monUp
    by_cases h : monUp l k ≠ 0
    · rw [if_pos h]; omega
    · rw [if_neg h]; split <;> omega
theorem monN_le (l : List Nat) : monN l ≤ 12 := monUp_le l 12
theorem monUp_stay {l : List Nat} {k : Nat} (h : monUp l k ≠ 0) : ∀ j, k ≤ j → monUp l j = monUp l k
  | 0, hj => by obtain rfl : k = 0 := by omega
                rfl
  | j + 1, hj => by
    by_cases e : k = j + 1
    · rw [e]
    · have := monUp_stay h j (by omega)
      show (if monUp l j ≠ 0 then _ else _) = _
      rw [if_pos (by rw [this]; exact h), this]
theorem monUp_hit {l : List Nat} {k : Nat} (h : monUp l k = 0) (hs : sameB l (monS (k + 1)) = true) : monUp l (k + 1) = k + 1 := by
  unfold monUp; rw [if_neg (by omega), if_pos hs]
theorem monUp_miss {l : List Nat} {k : Nat} (h : monUp l k = 0) (hs : sameB l (monS (k + 1)) = false) : monUp l (k + 1) = 0 := by
  unfold monUp; rw [if_neg (by omega), if_neg (by rw [hs]; exact Bool.false_ne_true)]
theorem monN_hit {l : List Nat} {k : Nat} (hk : k < 12) (h : monUp l k = 0) (hs : sameB l (monS (k + 1)) = true) : monN l = k + 1 := by
  have := monUp_hit h hs
  unfold monN
  rw [monUp_stay (k := k + 1) (by omega) 12 (by omega), this]
theorem monS_len {m : Nat} (h1 : 1 ≤ m) (h2 : m ≤ 12) : (monS m).length = 3 := by
  rcases (by omega : m = 1 ∨ m = 2 ∨ m = 3 ∨ m = 4 ∨ m = 5 ∨ m = 6 ∨ m = 7 ∨ m = 8 ∨ m = 9 ∨ m = 10 ∨ m = 11 ∨ m = 12) with rfl | rfl | rfl | rfl | rfl | rfl | rfl | rfl | rfl | rfl | rfl | rfl <;> rfl
theorem monN_some {l : List Nat} (h : monN l ≠ 0) : ∃ m, 1 ≤ m ∧ m ≤ 12 ∧ monN l = m ∧ sameB l (monS m) = true := by
  have : ∀ k, monUp l k ≠ 0 → 1 ≤ monUp l k ∧ monUp l k ≤ k ∧ sameB l (monS (monUp l k)) = true := by
    intro k
    induction k with
    | zero => intro h; exact absurd rfl h
    | succ k ih =>
      intro h
      by_cases hk : monUp l k = 0
      · cases hs : sameB l (monS (k + 1)) with
        | true => rw [monUp_hit hk hs]; exact ⟨by omega, Nat.le_refl _, hs⟩
        | false => exact absurd (monUp_miss hk hs) h
      · have := ih hk
        rw [monUp_stay hk (k + 1) (by omega)]
        exact ⟨this.1, by omega, this.2.2⟩
  exact ⟨monN l, (this 12 h).1, (this 12 h).2.1, rfl, (this 12 h).2.2⟩
theorem sameB_len {a b : List Nat} (h : sameB a b = true) : a.length = b.length := by
  have := congrArg List.length (of_decide_eq_true h)
  simpa using this
theorem monN_len {l : List Nat} (h : monN l ≠ 0) : l.length = 3 := by
  obtain ⟨m, h1, h2, _, h3⟩ := monN_some h
  rw [sameB_len h3, monS_len h1 h2]

/-! ### The parts of a date -/
def ymdOk (d m y : List Nat) : Bool := numOk d 1 2 && decide (monN m ≠ 0) && numOk y 4 4 && thereB (valN y) (monN m) (valN d)
def ymdV (d m y : List Nat) : Int := dayN (valN y) (monN m) (valN d)
theorem ymdOk_iff {d m y : List Nat} : ymdOk d m y = true ↔ numOk d 1 2 = true ∧ monN m ≠ 0 ∧ numOk y 4 4 = true ∧ thereB (valN y) (monN m) (valN d) = true := by
  unfold ymdOk; simp only [Bool.and_eq_true, decide_eq_true_iff]
  exact ⟨fun ⟨⟨⟨a, b⟩, c⟩, d⟩ => ⟨a, b, c, d⟩, fun ⟨a, b, c, d⟩ => ⟨⟨⟨a, b⟩, c⟩, d⟩⟩
theorem ymdV_bd {d m y : List Nat} (h : ymdOk d m y = true) : -719528 ≤ ymdV d m y ∧ ymdV d m y ≤ 2932896 := by
  obtain ⟨_, _, h3, h4⟩ := ymdOk_iff.1 h
  have := numOk_lt h3
  exact dayN_bd h4 (by omega)
/-- the parts of a clock: hours, minutes, and seconds or, where that is let, not -/
def clkOk (short : Bool) : List (List Nat) → Bool
  | [h, m] => short && (twoOk h 24 && twoOk m 60)
  | [h, m, s] => twoOk h 24 && twoOk m 60 && twoOk s 60
  | _ => false
def clkV : List (List Nat) → Nat
  | [h, m] => valN h * 3600 + valN m * 60
  | [h, m, s] => valN h * 3600 + valN m * 60 + valN s
  | _ => 0
theorem clkV_bd {b : Bool} {l : List (List Nat)} (h : clkOk b l = true) : clkV l < 86400 := by
  match l, h with
  | [], h => exact absurd h Bool.false_ne_true
  | [_], h => exact absurd h Bool.false_ne_true
  | [a, c], h =>
    simp only [clkOk, Bool.and_eq_true] at h
    have h1 := twoOk_iff.1 h.2.1
    have h2 := twoOk_iff.1 h.2.2
    show valN a * 3600 + valN c * 60 < 86400
    omega
  | [a, c, d], h =>
    simp only [clkOk, Bool.and_eq_true] at h
    have h1 := twoOk_iff.1 h.1.1
    have h2 := twoOk_iff.1 h.1.2
    have h3 := twoOk_iff.1 h.2
    show valN a * 3600 + valN c * 60 + valN d < 86400
    omega
  | _ :: _ :: _ :: _ :: _, h => exact absurd h Bool.false_ne_true
/-- a zone -/
def zoneOk (l : List Nat) : Bool := decide (l.length = 5) && (decide (l.getD 0 0 = 43) || decide (l.getD 0 0 = 45)) && numOk ((l.take 3).drop 1) 2 2 && twoOk (l.drop 3) 60
def zoneA (l : List Nat) : Nat := valN ((l.take 3).drop 1) * 3600 + valN (l.drop 3) * 60
def zoneV (l : List Nat) : Int := if l.getD 0 0 = 45 then -(zoneA l : Int) else zoneA l
theorem zoneOk_iff {l : List Nat} : zoneOk l = true ↔ l.length = 5 ∧ (l.getD 0 0 = 43 ∨ l.getD 0 0 = 45) ∧ numOk ((l.take 3).drop 1) 2 2 = true ∧ twoOk (l.drop 3) 60 = true := by
  unfold zoneOk; simp only [Bool.and_eq_true, Bool.or_eq_true, decide_eq_true_iff]
  exact ⟨fun ⟨⟨⟨a, b⟩, c⟩, d⟩ => ⟨a, b, c, d⟩, fun ⟨a, b, c, d⟩ => ⟨⟨⟨a, b⟩, c⟩, d⟩⟩
theorem zoneV_bd {l : List Nat} (h : zoneOk l = true) : -360000 < zoneV l ∧ zoneV l < 360000 := by
  obtain ⟨_, _, h3, h4⟩ := zoneOk_iff.1 h
  have a := numOk_lt h3
  have b := (twoOk_iff.1 h4).2
  unfold zoneV zoneA
  split <;> omega

/-! ### Cutting -/
def splitGo (c : Nat) : List Nat → List Nat → List (List Nat)
  | cur, [] => [cur]
  | cur, x :: l => if x = c then cur :: splitGo c [] l else splitGo c (cur ++ [x]) l
def splitL (c : Nat) (l : List Nat) : List (List Nat) := splitGo c [] l
theorem splitGo_none {c : Nat} : ∀ (p cur : List Nat), (∀ x ∈ p, x ≠ c) → splitGo c cur p = [cur ++ p]
  | [], cur, _ => by simp [splitGo]
  | x :: p, cur, h => by
    unfold splitGo
    rw [if_neg (h x (List.mem_cons_self ..)), splitGo_none p _ fun y hy => h y (List.mem_cons_of_mem _ hy), List.append_assoc]
    rfl
theorem splitGo_hit {c : Nat} : ∀ (p cur r : List Nat), (∀ x ∈ p, x ≠ c) → splitGo c cur (p ++ c :: r) = (cur ++ p) :: splitGo c [] r
  | [], cur, r, _ => by rw [List.nil_append, List.append_nil]; conv => lhs; unfold splitGo
                        rw [if_pos rfl]
  | x :: p, cur, r, h => by
    rw [List.cons_append]
    conv => lhs; unfold splitGo
    rw [if_neg (h x (List.mem_cons_self ..)), splitGo_hit p _ r fun y hy => h y (List.mem_cons_of_mem _ hy), List.append_assoc]
    rfl
theorem splitL_none {c : Nat} {p : List Nat} (h : ∀ x ∈ p, x ≠ c) : splitL c p = [p] := splitGo_none p [] h
theorem splitL_hit {c : Nat} {p : List Nat} (r : List Nat) (h : ∀ x ∈ p, x ≠ c) : splitL c (p ++ c :: r) = p :: splitL c r := splitGo_hit p [] r h
theorem splitGo_snoc {c : Nat} (l : List Nat) : ∀ (cur : List Nat) (x : Nat), splitGo c cur (l ++ [x]) = if x = c then splitGo c cur l ++ [[]] else (splitGo c cur l).dropLast ++ [(splitGo c cur l).getLastD [] ++ [x]] := by
  induction l with
  | nil => intro cur x; simp only [List.nil_append, splitGo]; split <;> simp
  | cons a l ih =>
    intro cur x
    rw [List.cons_append]
    conv => lhs; unfold splitGo
    conv => rhs; unfold splitGo
    have ne : ∀ (k : List Nat) (m : List Nat), splitGo c k m ≠ [] := by
      intro k m
      induction m generalizing k with
      | nil => simp [splitGo]
      | cons b m ih2 => unfold splitGo; split <;> simp [ih2]
    by_cases h : a = c
    · simp only [if_pos h]
      rw [ih]
      split
      · rfl
      · obtain ⟨z, zs, hz⟩ : ∃ z zs, splitGo c [] l = z :: zs := List.exists_cons_of_ne_nil (ne _ _)
        rw [hz]; simp
    · simp only [if_neg h]
      rw [ih]
theorem splitGo_ne (c : Nat) (cur l : List Nat) : splitGo c cur l ≠ [] := by
  induction l generalizing cur with
  | nil => simp [splitGo]
  | cons b m ih2 => unfold splitGo; split <;> simp [ih2]
/-- the lengths of the parts -/
theorem splitGo_sum (c : Nat) : ∀ (l cur : List Nat), ((splitGo c cur l).map List.length).sum + (splitGo c cur l).length = cur.length + l.length + 1
  | [], cur => by simp [splitGo]
  | x :: l, cur => by
    unfold splitGo
    split
    · have := splitGo_sum c l []
      simp only [List.map_cons, List.sum_cons, List.length_cons, List.length_nil] at this ⊢
      omega
    · have := splitGo_sum c l (cur ++ [x])
      simp only [List.length_append, List.length_cons, List.length_nil] at this ⊢
      omega
theorem splitL_sum (c : Nat) (l : List Nat) : ((splitL c l).map List.length).sum + (splitL c l).length = l.length + 1 := by
  have := splitGo_sum c l []
  simpa [splitL] using this

def blankB (x : Nat) : Bool := decide (x = 32) || decide (x = 9)
def wordsGo : List Nat → List Nat → List (List Nat)
  | cur, [] => if cur = [] then [] else [cur]
  | cur, x :: l => if blankB x then (if cur = [] then wordsGo [] l else cur :: wordsGo [] l) else wordsGo (cur ++ [x]) l
def wordsL (l : List Nat) : List (List Nat) := wordsGo [] l
end Go.Proofs.Ytkalnaidccgbiaa
