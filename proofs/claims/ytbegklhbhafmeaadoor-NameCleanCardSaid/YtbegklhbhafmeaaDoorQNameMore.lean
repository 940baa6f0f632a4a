/-
  Plain mathematics of package name, for its laws: what a name goes on is right, shorter and shorter; a name with a part more is below it. Nothing here speaks of a program.
-/
import Derived.Test.YtbegklhbhafmeaaDoorQNameRefC
namespace Go.Proofs.YtbegklhbhafmeaaDoor
set_option linter.unusedVariables false
set_option linter.unusedSimpArgs false
set_option linter.unusedVariables false
set_option linter.unusedSimpArgs false

theorem abv_is (l : List Nat) : aboveR l = abvP l l.length := rfl
theorem above_is {l : List Nat} (h : rightN l = true) : aboveN l = abvP l l.length := by unfold aboveN; rw [if_pos h]; rfl
theorem abv_in {l : List Nat} {k i : Nat} (hi : i < k) (h : l[i]? = some 47) : l.take i ∈ abvP l k :=
  List.mem_filterMap.2 ⟨i, List.mem_range.2 hi, by rw [if_pos h]⟩
theorem abv_count (l : List Nat) : ∀ k, k ≤ l.length → (abvP l k).length = (l.take k).count 47
  | 0, _ => rfl
  | k + 1, hk => by
    have hx : l[k]? = some (l[k]'(by omega)) := List.getElem?_eq_getElem (by omega)
    rw [abv_snoc, List.length_append, abv_count l k (by omega), count_take hx, hx]
    by_cases h : l[k]'(by omega) = 47
    · rw [if_pos (by rw [h]), if_pos h]; rfl
    · rw [if_neg (fun e => h (Option.some.inj e)), if_neg h]; rfl
theorem abv_rise (l : List Nat) : ∀ k, k ≤ l.length → (abvP l k).Pairwise (fun a b => a.length < b.length)
  | 0, _ => List.Pairwise.nil
  | k + 1, hk => by
    rw [abv_snoc, List.pairwise_append]
    refine ⟨abv_rise l k (by omega), ?_, fun a ha b hb => ?_⟩
    · split
      · exact List.pairwise_singleton _ _
      · exact List.Pairwise.nil
    · obtain ⟨i, hi, _, rfl⟩ := abv_mem ha
      split at hb
      · rw [List.mem_singleton.1 hb, List.length_take, List.length_take]; omega
      · cases hb
theorem right_parts {l : List Nat} (h : rightN l = true) : formB l = true ∧ cleanN l = l := of_decide_eq_true h
theorem above_three {l : List Nat} (h : rightN l = true) : (aboveN l).length = l.count 47 ∧ (aboveN l).length ≤ 3 := by
  have hc := (of_decide_eq_true (right_parts h).1).2.2.2
  rw [above_is h, abv_count l _ (Nat.le_refl _), List.take_length]
  exact ⟨rfl, hc⟩
theorem above_none {l : List Nat} (h : rightN l = true) : (aboveN l).length = 0 ↔ 47 ∉ l := by
  rw [(above_three h).1, List.count_eq_zero]
theorem getD_take (l : List Nat) {i j : Nat} (h : j < i) : (l.take i).getD j 0 = l.getD j 0 := by
  rw [List.getD_eq_getElem?_getD, List.getD_eq_getElem?_getD, List.getElem?_take_of_lt h]
theorem take_form {l : List Nat} {i : Nat} (h : formB l = true) (hi : l[i]? = some 47) : formB (l.take i) = true := by
  obtain ⟨h1, h2, h3, h4⟩ := of_decide_eq_true h
  have hil : i < l.length := (List.getElem?_eq_some_iff.1 hi).1
  have hg : l.getD i 0 = 47 := by rw [List.getD_eq_getElem?_getD, hi]; rfl
  have hsp := (spot_of (h3 i hil)).2
  have h0 : i ≠ 0 := fun e => hsp ⟨hg, .inl e⟩
  have hb : l.getD (i - 1) 0 ≠ 47 := fun e => hsp ⟨hg, .inr (.inr e)⟩
  have hlen : (l.take i).length = i := by rw [List.length_take]; omega
  refine decide_eq_true ⟨by omega, by omega, fun j hj => ?_, Nat.le_trans ((List.take_sublist i l).count_le 47) h4⟩
  rw [hlen] at hj
  obtain ⟨p1, p2⟩ := spot_of (h3 j (by omega))
  refine spot_mk (by rw [getD_take l hj]; exact p1) ?_
  rw [getD_take l hj, hlen]
  rintro ⟨e, e2⟩
  rcases e2 with e2 | e2 | e2
  · exact p2 ⟨e, .inl e2⟩
  · exact hb (by rw [show i - 1 = j by omega]; exact e)
  · by_cases hj0 : j = 0
    · exact p2 ⟨e, .inl hj0⟩
    · rw [getD_take l (by omega)] at e2
      exact p2 ⟨e, .inr (.inr e2)⟩
theorem take_right {l : List Nat} {i : Nat} (h : rightN l = true) (hi : l[i]? = some 47) : rightN (l.take i) = true := by
  obtain ⟨hf, hc⟩ := right_parts h
  refine decide_eq_true ⟨take_form hf hi, ?_⟩
  by_cases hb : inboxB (l.take i) = true
  · obtain ⟨a, r, e, ha, hm, hr⟩ := inbox_parts hb
    have hil : i < l.length := (List.getElem?_eq_some_iff.1 hi).1
    have hlen : (l.take i).length = i := by rw [List.length_take]; omega
    have hi5 : 5 ≤ i := by rw [e, List.length_append] at hlen; omega
    have ht5 : l.take 5 = a := by
      have h5 := congrArg (List.take 5) e
      rw [List.take_take, Nat.min_eq_left hi5] at h5
      rw [h5, List.take_append_of_le_length (by omega)]
      exact List.take_of_length_le (by omega)
    have hbl : inboxB l = true := by
      refine decide_eq_true ⟨by rw [ht5]; exact hm, ?_⟩
      by_cases h5 : i = 5
      · subst h5; exact .inr hi
      · rcases hr with rfl | ⟨r', rfl⟩
        · rw [e, List.append_nil] at hlen; omega
        · right
          have : (l.take i)[5]? = (a ++ 47 :: r')[5]? := by rw [e]
          rw [List.getElem?_take_of_lt (by omega), List.getElem?_append_right (by omega), ha] at this
          rw [this]; rfl
    have h6 : cleanN l = inboxL ++ l.drop 5 := by unfold cleanN; rw [if_pos hbl]
    rw [h6] at hc
    have h7 := congrArg (List.take 5) hc
    rw [List.take_append_of_le_length (by decide), show inboxL.take 5 = inboxL from rfl, ht5] at h7
    rw [cleanN_parts hb e ha, e, h7]
  · unfold cleanN; rw [if_neg hb]
/-- each that a name goes on is right, and it is below it -/
theorem above_right {l p : List Nat} (h : rightN l = true) (hp : p ∈ aboveN l) : rightN p = true ∧ belowN l p = true := by
  refine ⟨?_, decide_eq_true hp⟩
  rw [above_is h] at hp
  obtain ⟨i, _, hi, rfl⟩ := abv_mem hp
  exact take_right h hi
theorem above_rise {l : List Nat} (h : rightN l = true) {i : Nat} {a b : List Nat} (ha : (aboveN l)[i]? = some a) (hb : (aboveN l)[i + 1]? = some b) : a.length < b.length := by
  rw [above_is h] at ha hb
  have hp := abv_rise l l.length (Nat.le_refl _)
  obtain ⟨h1, rfl⟩ := List.getElem?_eq_some_iff.1 ha
  obtain ⟨h2, rfl⟩ := List.getElem?_eq_some_iff.1 hb
  exact List.pairwise_iff_getElem.1 hp i (i + 1) h1 h2 (by omega)
theorem below_more {s more : List Nat} (h : rightN (s ++ 47 :: more) = true) : belowN (s ++ 47 :: more) s = true := by
  refine decide_eq_true ?_
  rw [above_is h]
  have := abv_in (l := s ++ 47 :: more) (k := (s ++ 47 :: more).length) (i := s.length) (by rw [List.length_append, List.length_cons]; omega) (by rw [List.getElem?_append_right (Nat.le_refl _), Nat.sub_self]; rfl)
  rwa [List.take_left'] at this
  rfl
theorem below_not {s more : List Nat} : belowN s (s ++ 47 :: more) = false := by
  refine decide_eq_false fun h => ?_
  by_cases hr : rightN s = true
  · rw [above_is hr] at h
    obtain ⟨i, hi, _, e⟩ := abv_mem h
    have := congrArg List.length e
    rw [List.length_append, List.length_cons, List.length_take] at this
    omega
  · unfold aboveN at h; rw [if_neg hr] at h; cases h
theorem right_plain {l : List Nat} (h : rightN l = true) : ∀ c ∈ l, c ≠ 42 ∧ c ≠ 37 := fun c hc => by
  have := plain_lt (form_mem (right_parts h).1 c hc)
  exact ⟨this.2.2.1, this.2.2.2⟩
theorem right_pat {l : List Nat} (h : rightN l = true) : patB l = true := by
  have hf := (right_parts h).1
  have h2 := (of_decide_eq_true hf).2.1
  exact decide_eq_true ⟨by omega, fun c hc => .inl (form_mem hf c hc)⟩
end Go.Proofs.YtbegklhbhafmeaaDoor
