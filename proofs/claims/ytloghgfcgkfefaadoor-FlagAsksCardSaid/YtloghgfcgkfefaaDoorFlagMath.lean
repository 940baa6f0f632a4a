/-
  Plain mathematics of package flag: letters; names and bits of flags; what is told of flags; what names tell. Nothing here speaks of a program.
-/
import Derived.Test.YtloghgfcgkfefaaDoorPackMath
namespace Go.Proofs.YtloghgfcgkfefaaDoor
set_option linter.unusedVariables false
set_option linter.unusedSimpArgs false

/-! ### Letters -/
def smallN (x : Nat) : Nat := if 65 ≤ x ∧ x ≤ 90 then x + 32 else x
def sameB (a b : List Nat) : Bool := decide (a.map smallN = b.map smallN)
theorem sameB_len {a b : List Nat} (h : sameB a b = true) : a.length = b.length := by
  have := congrArg List.length (of_decide_eq_true h)
  simpa using this
def greatN (x : Nat) : Nat := if 97 ≤ x ∧ x ≤ 122 then x - 32 else x
theorem small_great (x : Nat) : smallN (greatN x) = smallN x := by
  unfold greatN
  split
  · unfold smallN; rw [if_pos (by omega), if_neg (by omega)]; omega
  · rfl
theorem sameB_great (a b : List Nat) : sameB (a.map greatN) b = sameB a b := by
  unfold sameB
  rw [List.map_map, show (smallN ∘ greatN) = smallN from funext small_great]

/-! ### Names and bits -/
def flagS : Nat → List Nat
  | 0 => [92, 65, 110, 115, 119, 101, 114, 101, 100]
  | 1 => [92, 70, 108, 97, 103, 103, 101, 100]
  | 2 => [92, 68, 101, 108, 101, 116, 101, 100]
  | 3 => [92, 83, 101, 101, 110]
  | 4 => [92, 68, 114, 97, 102, 116]
  | _ => []
def bitN : Nat → Nat
  | 0 => 2 | 1 => 4 | 2 => 8 | 3 => 1 | 4 => 16 | _ => 0
theorem flagS_lt (m : Nat) : ∀ x ∈ flagS m, x < 256 := by
  unfold flagS
  split <;> decide
theorem flagS_len {m : Nat} (h : m < 5) : 5 ≤ (flagS m).length ∧ (flagS m).length ≤ 9 := by
  rcases (by omega : m = 0 ∨ m = 1 ∨ m = 2 ∨ m = 3 ∨ m = 4) with rfl | rfl | rfl | rfl | rfl <;> decide
theorem flagS_le (m : Nat) : (flagS m).length ≤ 9 := by
  unfold flagS
  split <;> decide
theorem bitN_lt {m : Nat} (h : m < 5) : 1 ≤ bitN m ∧ bitN m ≤ 16 := by
  rcases (by omega : m = 0 ∨ m = 1 ∨ m = 2 ∨ m = 3 ∨ m = 4) with rfl | rfl | rfl | rfl | rfl <;> decide
/-- the bit of a name among the first k, 0 where it is none -/
def oneUp (l : List Nat) : Nat → Nat
  | 0 => 0
  | k + 1 => if oneUp l k ≠ 0 then oneUp l k else if sameB l (flagS k) then bitN k else 0
def oneN (l : List Nat) : Nat := oneUp l 5
theorem oneUp_miss {l : List Nat} {k : Nat} (h : oneUp l k = 0) (hs : sameB l (flagS k) = false) : oneUp l (k + 1) = 0 := by
  unfold oneUp; rw [if_neg (by omega), if_neg (by rw [hs]; exact Bool.false_ne_true)]
theorem oneUp_hit {l : List Nat} {k : Nat} (h : oneUp l k = 0) (hs : sameB l (flagS k) = true) : oneUp l (k + 1) = bitN k := by
  unfold oneUp; rw [if_neg (by omega), if_pos hs]
theorem oneUp_stay {l : List Nat} {k : Nat} (h : oneUp l k ≠ 0) : ∀ j, k ≤ j → oneUp l j = oneUp l k
  | 0, hj => by obtain rfl : k = 0 := by omega
                rfl
  | j + 1, hj => by
    by_cases e : k = j + 1
    · rw [e]
    · have := oneUp_stay h j (by omega)
      show (if oneUp l j ≠ 0 then _ else _) = _
      rw [if_pos (by rw [this]; exact h), this]
theorem oneN_hit {l : List Nat} {k : Nat} (hk : k < 5) (h : oneUp l k = 0) (hs : sameB l (flagS k) = true) : oneN l = bitN k := by
  have := oneUp_hit h hs
  have hb := (bitN_lt hk).1
  unfold oneN
  rw [oneUp_stay (k := k + 1) (by omega) 5 (by omega), this]
theorem oneN_le (l : List Nat) : oneN l ≤ 16 := by
  have : ∀ k, k ≤ 5 → oneUp l k ≤ 16 := by
    intro k
    induction k with
    | zero => intro _; exact Nat.zero_le _
    | succ k ih =>
      intro hk
      have := ih (by omega)
      have := bitN_lt (m := k) (by omega)
      unfold oneUp
      split
      · assumption
      · split <;> omega
  exact this 5 (Nat.le_refl _)
theorem oneN_great (l : List Nat) : oneN (l.map greatN) = oneN l := by
  unfold oneN
  have : ∀ k, oneUp (l.map greatN) k = oneUp l k := by
    intro k
    induction k with
    | zero => rfl
    | succ k ih => unfold oneUp; rw [ih, sameB_great]
  exact this 5
/-- a name that is none of the five is so, where it is too long -/
theorem oneN_long {l : List Nat} (h : 20 ≤ l.length) : oneN l = 0 := by
  unfold oneN
  have : ∀ k, oneUp l k = 0 := by
    intro k
    induction k with
    | zero => rfl
    | succ k ih =>
      refine oneUp_miss ih ?_
      cases hs : sameB l (flagS k)
      · rfl
      · have := sameB_len hs
        have := flagS_le k
        omega
  exact this 5
/-- the error beside a bit: none, or that it is no name -/
def oneE (z : Nat) : Int := if z = 0 then 3 else 0

/-! ### Names together -/
/-- the flags of names; none where one of them is no name -/
def parUp : List (List Nat) → Nat → Option Nat
  | [], a => some a
  | x :: l, a => if oneN x = 0 then none else parUp l (a ||| oneN x)
def parN (l : List (List Nat)) : Option Nat := parUp l 0
def parV (l : List (List Nat)) : Nat := (parN l).getD 0
def parE (l : List (List Nat)) : Int := if (parN l).isSome then 0 else 3
theorem parUp_snoc {l : List (List Nat)} {x : List Nat} : ∀ {a b : Nat}, parUp l a = some b → parUp (l ++ [x]) a = if oneN x = 0 then none else some (b ||| oneN x) := by
  induction l with
  | nil => intro a b h; cases h; rfl
  | cons y l ih =>
    intro a b h
    unfold parUp at h
    show (if oneN y = 0 then none else _) = _
    by_cases hy : oneN y = 0
    · rw [if_pos hy] at h; cases h
    · rw [if_neg hy] at h ⊢; exact ih h
theorem parUp_none {l r : List (List Nat)} : ∀ {a : Nat}, parUp l a = none → parUp (l ++ r) a = none := by
  induction l with
  | nil => intro a h; cases h
  | cons y l ih =>
    intro a h
    unfold parUp at h
    show (if oneN y = 0 then none else _) = _
    by_cases hy : oneN y = 0
    · rw [if_pos hy]
    · rw [if_neg hy] at h ⊢; exact ih h
theorem or_lt32 {a b : Nat} (ha : a < 32) (hb : b < 32) : a ||| b < 32 := Nat.or_lt_two_pow (n := 5) ha hb

/-! ### What is told of flags -/
/-- has a number the k-th flag's bit? -/
def hasB (f : Int) (k : Nat) : Bool := !(bits .and .i64 f (bitN k : Nat) == 0)
/-- the names of the first k flags that a number has -/
def toldUp (f : Int) : Nat → List (List Nat)
  | 0 => []
  | k + 1 => toldUp f k ++ (if hasB f k then [flagS k] else [])
def told (f : Int) : List (List Nat) := toldUp f 5
def joinUp : List (List Nat) → List Nat
  | [] => []
  | [x] => x
  | x :: y :: r => x ++ 32 :: joinUp (y :: r)
def tellN (f : Int) : List Nat := 40 :: joinUp (told f) ++ [41]
theorem toldUp_len (f : Int) : ∀ k, (toldUp f k).length ≤ k
  | 0 => Nat.le_refl _
  | k + 1 => by
    have := toldUp_len f k
    unfold toldUp
    rw [List.length_append]
    split <;> simp <;> omega
theorem toldUp_mem (f : Int) : ∀ k, ∀ x ∈ toldUp f k, ∃ m, x = flagS m
  | 0 => by intro x hx; cases hx
  | k + 1 => by
    intro x hx
    unfold toldUp at hx
    rcases List.mem_append.1 hx with h | h
    · exact toldUp_mem f k x h
    · split at h
      · exact ⟨k, List.mem_singleton.1 h⟩
      · cases h
theorem joinUp_snoc : ∀ (l : List (List Nat)) (x : List Nat), l ≠ [] → joinUp (l ++ [x]) = joinUp l ++ 32 :: x
  | [], x, h => absurd rfl h
  | [y], x, _ => rfl
  | y :: z :: r, x, _ => by
    have := joinUp_snoc (z :: r) x (by simp)
    show y ++ 32 :: joinUp (z :: r ++ [x]) = _
    rw [this]
    simp [joinUp, List.append_assoc]
theorem joinUp_lt {l : List (List Nat)} (h : ∀ x ∈ l, ∃ m, x = flagS m) : ∀ y ∈ joinUp l, y < 256 := by
  match l, h with
  | [], _ => intro y hy; cases hy
  | [x], h =>
    obtain ⟨m, rfl⟩ := h x (List.mem_singleton_self x)
    exact flagS_lt m
  | x :: z :: r, h =>
    obtain ⟨m, rfl⟩ := h x (List.mem_cons_self ..)
    intro y hy
    unfold joinUp at hy
    rcases List.mem_append.1 hy with h1 | h1
    · exact flagS_lt m y h1
    · rcases List.mem_cons.1 h1 with rfl | h2
      · omega
      · exact joinUp_lt (fun x hx => h x (List.mem_cons_of_mem _ hx)) y h2
theorem joinUp_len {l : List (List Nat)} (h : ∀ x ∈ l, ∃ m, x = flagS m) : (joinUp l).length ≤ 10 * l.length := by
  match l, h with
  | [], _ => exact Nat.le_refl _
  | [x], h =>
    obtain ⟨m, rfl⟩ := h x (List.mem_singleton_self x)
    have := flagS_le m
    show (flagS m).length ≤ 10
    omega
  | x :: z :: r, h =>
    obtain ⟨m, rfl⟩ := h x (List.mem_cons_self ..)
    have := flagS_le m
    have := joinUp_len (l := z :: r) (fun x hx => h x (List.mem_cons_of_mem _ hx))
    show (flagS m ++ 32 :: joinUp (z :: r)).length ≤ _
    rw [List.length_append, List.length_cons]
    simp only [List.length_cons] at this ⊢
    omega
theorem tellN_lt (f : Int) : ∀ y ∈ tellN f, y < 256 := by
  intro y hy
  unfold tellN at hy
  rcases List.mem_append.1 hy with h | h
  · rcases List.mem_cons.1 h with rfl | h
    · omega
    · exact joinUp_lt (toldUp_mem f 5) y h
  · rw [List.mem_singleton.1 h]; omega

/-! ### Flags changed -/
def rightB (f : Int) : Bool := decide (0 ≤ f ∧ f ≤ 31)
def appE (f m g : Int) : Int := if rightB f = true ∧ rightB g = true ∧ 0 ≤ m ∧ m ≤ 2 then 0 else 1
def appV (f m g : Int) : Int := if rightB f = true ∧ rightB g = true then (if m = 0 then g else if m = 1 then bits .or .i64 f g else if m = 2 then bits .andNot .i64 f g else 0) else 0
end Go.Proofs.YtloghgfcgkfefaaDoor
