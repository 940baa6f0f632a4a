/-
  Plain mathematics for the program's own way with names: its parts, INBOX ahead of the first /, rows of a fixed length.
-/
import Derived.Test.YtbegklhbhafmeaaDoorQNameRefD
import Derived.Test.YtbegklhbhafmeaaDoorQDateMath
namespace Go.Proofs.YtbegklhbhafmeaaDoor
set_option linter.unusedVariables false
set_option linter.unusedSimpArgs false
set_option linter.unusedVariables false
set_option linter.unusedSimpArgs false

theorem splitGo_count (c : Nat) : ∀ (l cur : List Nat), (splitGo c cur l).length = l.count c + 1
  | [], cur => rfl
  | x :: l, cur => by
    unfold splitGo
    by_cases h : x = c
    · subst h
      rw [if_pos rfl, List.length_cons, splitGo_count x l, List.count_cons_self]
    · rw [if_neg h, splitGo_count c l, List.count_cons_of_ne h]
theorem split_count (c : Nat) (l : List Nat) : (splitL c l).length = l.count c + 1 := splitGo_count c l []
def EndE (l : List Nat) : Prop := ∃ i, i < l.length ∧ l.getD i 0 = 47 ∧ (i + 1 = l.length ∨ l.getD (i + 1) 0 = 47)
theorem EndE.cons {x : Nat} {l : List Nat} : EndE (x :: l) ↔ (x = 47 ∧ (l = [] ∨ l.getD 0 0 = 47)) ∨ EndE l := by
  constructor
  · rintro ⟨i, h1, h2, h3⟩
    cases i with
    | zero =>
      refine .inl ⟨by simpa using h2, ?_⟩
      rcases h3 with h3 | h3
      · left
        simp only [List.length_cons] at h3
        exact List.eq_nil_of_length_eq_zero (by omega)
      · right; simpa using h3
    | succ i =>
      refine .inr ⟨i, by simpa using h1, by simpa using h2, ?_⟩
      rcases h3 with h3 | h3
      · left; simpa using h3
      · right; simpa using h3
  · rintro (⟨rfl, h⟩ | ⟨i, h1, h2, h3⟩)
    · refine ⟨0, by simp, by simp, ?_⟩
      rcases h with rfl | h
      · left; rfl
      · right; simpa using h
    · refine ⟨i + 1, by simpa using h1, by simpa using h2, ?_⟩
      rcases h3 with h3 | h3
      · left; simpa using h3
      · right; simpa using h3
theorem EndE.nil : ¬ EndE [] := fun ⟨i, h, _⟩ => by simp at h
theorem splitGo_empty : ∀ (l cur : List Nat), [] ∈ splitGo 47 cur l ↔ (cur = [] ∧ (l = [] ∨ l.getD 0 0 = 47)) ∨ EndE l
  | [], cur => by
    unfold splitGo
    rw [List.mem_singleton]
    constructor
    · intro h; exact .inl ⟨h.symm, .inl rfl⟩
    · rintro (h | h)
      · exact h.1.symm
      · exact absurd h EndE.nil
  | x :: l, cur => by
    unfold splitGo
    rw [EndE.cons]
    by_cases h : x = 47
    · rw [if_pos h, List.mem_cons, splitGo_empty l []]
      subst h
      constructor
      · rintro (h | h | h)
        · exact .inl ⟨h.symm, .inr rfl⟩
        · exact .inr (.inl ⟨rfl, h.2⟩)
        · exact .inr (.inr h)
      · rintro (h | h | h)
        · exact .inl h.1.symm
        · exact .inr (.inl ⟨rfl, h.2⟩)
        · exact .inr (.inr h)
    · rw [if_neg h, splitGo_empty l (cur ++ [x])]
      constructor
      · rintro (⟨h1, _⟩ | h2)
        · simp at h1
        · exact .inr (.inr h2)
      · rintro (⟨_, h1⟩ | ⟨h1, _⟩ | h2)
        · rcases h1 with h1 | h1
          · cases h1
          · exact absurd h1 h
        · exact absurd h1 h
        · exact .inr h2
theorem split_empty (l : List Nat) : [] ∈ splitL 47 l ↔ l = [] ∨ l.getD 0 0 = 47 ∨ EndE l := by
  rw [show ([] ∈ splitL 47 l) ↔ ([] ∈ splitGo 47 [] l) from Iff.rfl, splitGo_empty]
  constructor
  · rintro (⟨_, h | h⟩ | h)
    · exact .inl h
    · exact .inr (.inl h)
    · exact .inr (.inr h)
  · rintro (h | h | h)
    · exact .inl ⟨rfl, .inl h⟩
    · exact .inl ⟨rfl, .inr h⟩
    · exact .inr h
theorem getD_out {l : List Nat} {i : Nat} (h : l.length ≤ i) : l.getD i 0 = 0 := by
  rw [List.getD_eq_getElem?_getD, List.getElem?_eq_none h]; rfl
theorem getD_here {l : List Nat} {i : Nat} (h : i < l.length) : l.getD i 0 = l[i] := by
  rw [List.getD_eq_getElem?_getD, List.getElem?_eq_getElem h]; rfl
theorem getD_lt {l : List Nat} {i : Nat} (h : l.getD i 0 = 47) : i < l.length := by
  by_cases hi : i < l.length
  · exact hi
  · rw [getD_out (by omega)] at h; cases h
theorem bad_iff (l : List Nat) : (∃ i, i < l.length ∧ (l.getD i 0 = 47 ∧ (i = 0 ∨ i + 1 = l.length ∨ l.getD (i - 1) 0 = 47))) ↔ l.getD 0 0 = 47 ∨ EndE l := by
  constructor
  · rintro ⟨i, h1, h2, h3⟩
    by_cases hi : i = 0
    · subst hi; exact .inl h2
    · rcases h3 with h3 | h3 | h3
      · exact absurd h3 hi
      · exact .inr ⟨i, h1, h2, .inl h3⟩
      · exact .inr ⟨i - 1, by omega, h3, .inr (by rw [show i - 1 + 1 = i by omega]; exact h2)⟩
  · rintro (h | ⟨i, h1, h2, h3⟩)
    · exact ⟨0, getD_lt h, h, .inl rfl⟩
    · rcases h3 with h3 | h3
      · exact ⟨i, h1, h2, .inr (.inl h3)⟩
      · exact ⟨i + 1, getD_lt h3, h3, .inr (.inr (by rw [Nat.add_sub_cancel]; exact h2))⟩
def nameB (l : List Nat) : Bool := decide (l.length ≤ 40 ∧ (∀ x ∈ l, plainB x = true) ∧ (splitL 47 l).length ≤ 4 ∧ [] ∉ splitL 47 l)
theorem nameB_is (l : List Nat) : nameB l = formB l := by
  unfold nameB formB
  rw [decide_eq_decide]
  rw [split_count, split_empty]
  constructor
  · rintro ⟨h1, h2, h3, h4⟩
    refine ⟨?_, h1, fun i hi => ?_, by omega⟩
    · rcases l with _ | ⟨x, l⟩
      · exact absurd (.inl rfl) h4
      · exact Nat.succ_le_succ (Nat.zero_le _)
    · refine spot_mk ?_ fun hb => h4 (.inr ((bad_iff l).1 ⟨i, hi, hb⟩))
      rw [getD_here hi]
      exact h2 _ (List.getElem_mem hi)
  · rintro ⟨h1, h2, h3, h4⟩
    refine ⟨h2, fun x hx => ?_, by omega, ?_⟩
    · obtain ⟨i, hi, rfl⟩ := List.mem_iff_getElem.1 hx
      have := (spot_of (h3 i hi)).1
      rwa [getD_here hi] at this
    · rintro (h | h)
      · subst h; simp at h1
      · obtain ⟨i, hi, hb⟩ := (bad_iff l).2 h
        exact (spot_of (h3 i hi)).2 hb
theorem nameB_long {l : List Nat} (h : 40 < l.length) : formB l = false := by
  rw [← nameB_is]; exact decide_eq_false fun e => by omega
theorem nameB_stop {l : List Nat} {k x : Nat} (hx : l[k]? = some x) (h : plainB x = false) : formB l = false := by
  rw [← nameB_is]
  refine decide_eq_false fun e => ?_
  rw [e.2.1 x (List.mem_of_getElem? hx)] at h; cases h
theorem nameB_all {l : List Nat} (h1 : l.length ≤ 40) (h2 : ∀ x ∈ l, plainB x = true) : formB l = (decide ((splitL 47 l).length ≤ 4) && !decide ([] ∈ splitL 47 l)) := by
  rw [← nameB_is]
  unfold nameB
  rw [Bool.eq_iff_iff]
  simp only [decide_eq_true_iff, Bool.and_eq_true, Bool.not_eq_true', decide_eq_false_iff_not]
  exact ⟨fun h => ⟨h.2.2.1, h.2.2.2⟩, fun h => ⟨h1, h2, h.1, h.2⟩⟩

/-! INBOX ahead of the first / -/
theorem small_up {x d : Nat} (h : 65 ≤ d ∧ d ≤ 90) : smallN x = smallN d ↔ upC x = d := by
  unfold smallN upC
  rw [if_pos h]
  split <;> split <;> omega
theorem small_ups : ∀ (a b : List Nat), (∀ d ∈ b, 65 ≤ d ∧ d ≤ 90) → (a.map smallN = b.map smallN ↔ a.map upC = b)
  | [], [], _ => by simp
  | [], _ :: _, _ => by simp
  | _ :: _, [], _ => by simp
  | x :: a, d :: b, h => by
    rw [List.map_cons, List.map_cons, List.map_cons, List.cons.injEq, List.cons.injEq, small_up (h d (List.mem_cons_self ..)), small_ups a b fun y hy => h y (List.mem_cons_of_mem _ hy)]
theorem inboxL_letters : ∀ d ∈ inboxL, 65 ≤ d ∧ d ≤ 90 := by decide
theorem same_inbox (a : List Nat) : sameB a inboxL = decide (a.map upC = inboxL) := by
  unfold sameB
  rw [decide_eq_decide]
  exact small_ups a inboxL inboxL_letters
theorem inbox_none {l : List Nat} (h : ∀ x ∈ l, x ≠ 47) : inboxB l = sameB l inboxL := by
  rw [same_inbox]
  unfold inboxB
  rw [decide_eq_decide]
  constructor
  · rintro ⟨h1, h2 | h2⟩
    · rwa [List.take_of_length_le (by omega)] at h1
    · exact absurd rfl (h 47 (List.mem_of_getElem? h2))
  · intro h1
    have h5 : l.length = 5 := by have := congrArg List.length h1; rw [List.length_map] at this; exact this
    exact ⟨by rw [List.take_of_length_le (by omega)]; exact h1, .inl h5⟩
theorem inbox_hit {l p r : List Nat} (e : l = p ++ 47 :: r) (h : ∀ x ∈ p, x ≠ 47) : inboxB l = sameB p inboxL := by
  rw [same_inbox]
  unfold inboxB
  rw [decide_eq_decide]
  subst e
  constructor
  · rintro ⟨h1, h2⟩
    rcases Nat.lt_trichotomy p.length 5 with h5 | h5 | h5
    · exfalso
      have e1 := congrArg (·[p.length]?) h1
      simp only [List.getElem?_map, List.getElem?_take_of_lt h5, List.getElem?_append_right (Nat.le_refl _), Nat.sub_self, List.getElem?_cons_zero, Option.map_some] at e1
      have : upC 47 ∈ inboxL := List.mem_of_getElem? e1.symm
      exact absurd this (by decide)
    · rwa [List.take_left' h5] at h1
    · exfalso
      rcases h2 with h2 | h2
      · simp at h2; omega
      · rw [List.getElem?_append_left h5] at h2
        exact h 47 (List.mem_of_getElem? h2) rfl
  · intro h1
    have h5 : p.length = 5 := by have := congrArg List.length h1; rw [List.length_map] at this; exact this
    exact ⟨by rw [List.take_left' h5]; exact h1, .inr (by rw [List.getElem?_append_right (by omega), h5]; rfl)⟩

/-! rows of 41 -/
/-- what of a name's beginnings is like the first i bytes of a pattern; those beyond its end aren't there -/
def arrF (p s : List Nat) (i j : Nat) : Bool := if j ≤ s.length then rowF p s i j else false
def newF (p s : List Nat) (i k j : Nat) : Bool := if j ≤ k then arrF p s (i + 1) j else false
def midF (p s : List Nat) (i k j : Nat) : Bool := if j ≤ k then arrF p s (i + 1) j else arrF p s i j
theorem arr_zero {p s : List Nat} {m : Nat} (hm : 0 < m) : (List.replicate m false).set 0 true = fnV m (arrF p s 0) := by
  rw [fnV_zero]
  refine fnV_set hm ?_ fun j hj h0 => ?_
  · unfold arrF rowF; rw [if_pos (Nat.zero_le _), List.take_zero, like_nil_s]; rfl
  · unfold arrF
    split
    · unfold rowF
      rw [List.take_zero, like_nil_s, decide_eq_false_iff_not]
      intro e
      have := congrArg List.length e
      rw [List.length_take, List.length_nil] at this
      omega
    · rfl
theorem arr_in {p s : List Nat} {i j : Nat} (h : j ≤ s.length) : arrF p s i j = rowF p s i j := if_pos h
theorem new_zero {p s : List Nat} {m i c : Nat} (hc : p[i]? = some c) (hw : wildB c = false) : List.replicate m false = fnV m (newF p s i 0) := by
  rw [fnV_zero]
  refine fnV_ext fun j hj => ?_
  unfold newF
  split
  · rw [show j = 0 by omega, arr_in (Nat.zero_le _), row_first hc, hw]; rfl
  · rfl
theorem new_more {p s : List Nat} {m i k c x : Nat} (hc : p[i]? = some c) (hx : s[k]? = some x) (hw : wildB c = false) (hk : k + 1 < m) : (fnV m (newF p s i k)).set (k + 1) (arrF p s i k && decide (x = c)) = fnV m (newF p s i (k + 1)) := by
  have hl : k < s.length := (List.getElem?_eq_some_iff.1 hx).1
  refine fnV_set hk ?_ fun j hj h0 => ?_
  · unfold newF; rw [if_pos (Nat.le_refl _), arr_in (by omega), arr_in (by omega), row_one hc hx hw]
  · unfold newF
    by_cases h : j ≤ k
    · rw [if_pos h, if_pos (by omega)]
    · rw [if_neg h, if_neg (by omega)]
theorem new_all {p s : List Nat} {m i : Nat} : fnV m (newF p s i s.length) = fnV m (arrF p s (i + 1)) := fnV_ext fun j hj => by
  unfold newF arrF
  split
  · rfl
  · rfl
theorem mid_zero {p s : List Nat} {m i c : Nat} (hc : p[i]? = some c) (hw : wildB c = true) : fnV m (arrF p s i) = fnV m (midF p s i 0) := fnV_ext fun j hj => by
  unfold midF
  split
  · rw [show j = 0 by omega, arr_in (Nat.zero_le _), arr_in (Nat.zero_le _), row_first hc, hw]; rfl
  · rfl
theorem mid_at {p s : List Nat} {i k : Nat} (h : k ≤ s.length) : midF p s i k k = rowF p s (i + 1) k := by
  unfold midF; rw [if_pos (Nat.le_refl _), arr_in h]
theorem mid_yes {p s : List Nat} {m i k c x : Nat} (hc : p[i]? = some c) (hx : s[k]? = some x) (hw : wildB c = true) (hk : k + 1 < m) (h : (rowF p s (i + 1) k && (decide (c = 42) || decide (x ≠ 47))) = true) : (fnV m (midF p s i k)).set (k + 1) true = fnV m (midF p s i (k + 1)) := by
  have hl : k < s.length := (List.getElem?_eq_some_iff.1 hx).1
  refine fnV_set hk ?_ fun j hj h0 => ?_
  · unfold midF; rw [if_pos (Nat.le_refl _), arr_in (by omega), row_wild hc hx hw, h, Bool.or_true]
  · unfold midF
    by_cases h : j ≤ k
    · rw [if_pos h, if_pos (by omega)]
    · rw [if_neg h, if_neg (by omega)]
theorem mid_no {p s : List Nat} {m i k c x : Nat} (hc : p[i]? = some c) (hx : s[k]? = some x) (hw : wildB c = true) (h : (rowF p s (i + 1) k && (decide (c = 42) || decide (x ≠ 47))) = false) : fnV m (midF p s i k) = fnV m (midF p s i (k + 1)) := fnV_ext fun j hj => by
  have hl : k < s.length := (List.getElem?_eq_some_iff.1 hx).1
  unfold midF
  by_cases h1 : j ≤ k
  · rw [if_pos h1, if_pos (by omega)]
  · rw [if_neg h1]
    by_cases h2 : j = k + 1
    · rw [if_pos (by omega), h2, arr_in (by omega), arr_in (by omega), row_wild hc hx hw, h, Bool.or_false]
    · rw [if_neg (by omega)]
theorem mid_all {p s : List Nat} {m i : Nat} : fnV m (midF p s i s.length) = fnV m (arrF p s (i + 1)) := fnV_ext fun j hj => by
  unfold midF arrF
  split
  · rfl
  · rfl
end Go.Proofs.YtbegklhbhafmeaaDoor
