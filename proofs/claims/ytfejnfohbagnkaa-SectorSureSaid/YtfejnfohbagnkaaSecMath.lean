/-
  Lemmas on lists for the proofs over package sector: rows laid one behind the other, and what the last write of each sector leaves. Nothing here speaks of a program.
-/
import Derived.Test.YtfejnfohbagnkaaSecLaws
namespace Go.Proofs.Ytfejnfohbagnkaa
open Go.RowKit

theorem splice_at {α : Type} (L y : List α) (off j : Nat) (h : off + y.length ≤ L.length) :
    (splice L off y)[j]? = if j < off then L[j]? else if j < off + y.length then y[j - off]? else L[j]? := by
  unfold splice
  rw [List.getElem?_append, List.getElem?_append]
  have hl : (L.take off).length = off := by simp; omega
  rw [hl]
  by_cases h1 : j < off
  · simp [h1]
  · by_cases h2 : j < off + y.length
    · have : j - off < y.length := by omega
      simp [h1, h2, this]
    · have : ¬ j - off < y.length := by omega
      simp only [h1, h2, this, if_false, List.getElem?_drop]
      congr 1
      omega

theorem splice_prefix {L y : List Value} {cs : Array Value} {off : Nat} (h : off + y.length ≤ L.length) (hL : L.length ≤ cs.size) (hc : ∀ (j : Nat) (u : Value), L[j]? = some u → cs[j]? = some u)
    (j : Nat) (u : Value) (hj : (splice L off y)[j]? = some u) : (splice cs.toList off y).toArray[j]? = some u := by
  rw [List.getElem?_toArray, splice_at _ _ _ _ (by simp; omega)]
  rw [splice_at _ _ _ _ h] at hj
  by_cases h1 : j < off
  · rw [if_pos h1] at hj ⊢
    simpa using hc j u hj
  · rw [if_neg h1] at hj ⊢
    by_cases h2 : j < off + y.length
    · rw [if_pos h2] at hj ⊢
      exact hj
    · rw [if_neg h2] at hj ⊢
      simpa using hc j u hj

theorem flat_set {k : Nat} {xs : List (List Value)} (hk : ∀ x ∈ xs, x.length = k) (i : Nat) (hi : i < xs.length) (y : List Value) (hy : y.length = k) :
    (xs.set i y).flatten = splice xs.flatten (i * k) y := by
  have hl : xs.flatten.length = xs.length * k := flat_length hk
  have hik : i * k + k ≤ xs.length * k := by have := Nat.mul_le_mul_right k (show i + 1 ≤ xs.length by omega); rw [Nat.succ_mul] at this; exact this
  have hk' : ∀ x ∈ xs.set i y, x.length = k := fun x hx => by
    rcases List.mem_or_eq_of_mem_set hx with h | h
    · exact hk x h
    · rw [h, hy]
  apply List.ext_getElem?
  intro j
  rw [splice_at _ _ _ _ (by rw [hl, hy]; exact hik), hy]
  rcases Nat.eq_zero_or_pos k with h0 | hpos
  · subst h0
    have e1 : (xs.set i y).flatten = [] := List.eq_nil_of_length_eq_zero (by rw [flat_length hk']; simp)
    have e2 : xs.flatten = [] := List.eq_nil_of_length_eq_zero (by rw [hl]; simp)
    rw [e1, e2]
    simp
  · have e : j = j / k * k + j % k := by have := Nat.div_add_mod j k; rw [Nat.mul_comm] at this; exact this.symm
    have hm := Nat.mod_lt j hpos
    generalize hq : j / k = q at e
    generalize hr : j % k = r at e hm
    subst e
    rw [flat_at hk' q r hm, flat_at hk q r hm, List.getElem?_set]
    by_cases hqi : q = i
    · subst hqi
      rw [if_pos rfl, if_pos hi, if_neg (by omega), if_pos (by omega)]
      simp
    · by_cases hlt : q < i
      · have : q * k + k ≤ i * k := by have := Nat.mul_le_mul_right k (show q + 1 ≤ i by omega); rw [Nat.succ_mul] at this; exact this
        rw [if_neg (fun h : i = q => hqi h.symm), if_pos (by omega)]
      · have : i * k + k ≤ q * k := by have := Nat.mul_le_mul_right k (show i + 1 ≤ q by omega); rw [Nat.succ_mul] at this; exact this
        rw [if_neg (fun h : i = q => hqi h.symm), if_neg (by omega), if_neg (by omega)]

/-- the sectors when the writes of pre have come, the last one of all first: the first one that came holds -/
def rowM (ss : List (List Int)) (pre : List (Int × List Int)) (i : Nat) : List Int :=
  match pre.find? (fun x => x.1 == (i : Int)) with
  | some x => x.2
  | none => ss.getD i []
def wrB (pre : List (Int × List Int)) (i : Nat) : Bool := pre.any fun x => x.1 == (i : Int)
def rowsM (ss : List (List Int)) (pre : List (Int × List Int)) : List (List Int) := (List.range ss.length).map (rowM ss pre)
def flagsM (n : Nat) (pre : List (Int × List Int)) : List Value := (List.range n).map fun i => Value.bool (wrB pre i)

theorem rowsM_nil (ss : List (List Int)) : rowsM ss [] = ss := by
  apply List.ext_getElem
  · simp [rowsM]
  · intro i h1 h2
    simp [rowsM, rowM, h2]
theorem rowsM_length (ss : List (List Int)) (pre : List (Int × List Int)) : (rowsM ss pre).length = ss.length := by simp [rowsM]
theorem flagsM_nil (n : Nat) : flagsM n [] = List.replicate n (Value.bool false) := by
  apply List.ext_getElem
  · simp [flagsM]
  · intro i h1 h2
    simp [flagsM, wrB]
theorem flagsM_length (n : Nat) (pre : List (Int × List Int)) : (flagsM n pre).length = n := by simp [flagsM]
theorem flagsM_at (n : Nat) (pre : List (Int × List Int)) (i : Nat) (h : i < n) : (flagsM n pre)[i]? = some (Value.bool (wrB pre i)) := by simp [flagsM, h]

theorem rowsM_len {k : Nat} (ss : List (List Int)) (pre : List (Int × List Int)) (hs : ∀ s ∈ ss, s.length = k) (hp : ∀ x ∈ pre, x.2.length = k) : ∀ y ∈ rowsM ss pre, y.length = k := by
  intro y hy
  simp only [rowsM, List.mem_map, List.mem_range] at hy
  obtain ⟨i, hi, rfl⟩ := hy
  unfold rowM
  cases h : pre.find? (fun x => x.1 == (i : Int)) with
  | some z => exact hp z (List.mem_of_find?_eq_some h)
  | none =>
    rw [List.getD_eq_getElem?_getD, List.getElem?_eq_getElem hi]
    exact hs _ (List.getElem_mem hi)
theorem wrB_snoc (pre : List (Int × List Int)) (x : Int × List Int) (i : Nat) : wrB (pre ++ [x]) i = (wrB pre i || x.1 == (i : Int)) := by simp [wrB]
theorem wrB_find {pre : List (Int × List Int)} {i : Nat} : wrB pre i = (pre.find? (fun x => x.1 == (i : Int))).isSome := by
  unfold wrB
  rw [Bool.eq_iff_iff]
  simp [List.find?_isSome]
theorem rowM_snoc (ss : List (List Int)) (pre : List (Int × List Int)) (x : Int × List Int) (i : Nat) : rowM ss (pre ++ [x]) i = if wrB pre i = true then rowM ss pre i else if x.1 = (i : Int) then x.2 else rowM ss pre i := by
  unfold rowM
  rw [List.find?_append]
  have hf := wrB_find (pre := pre) (i := i)
  cases h : pre.find? (fun x => x.1 == (i : Int)) with
  | some y => rw [h] at hf; simp [hf]
  | none =>
    rw [h] at hf
    by_cases hx : x.1 = (i : Int)
    · simp [hf, hx]
    · simp [hf, hx]

/-- a write that comes behind another one of its sector leaves nothing -/
theorem rowsM_old (ss : List (List Int)) (pre : List (Int × List Int)) (x : Int × List Int) (k : Nat) (hx : x.1 = (k : Int)) (hw : wrB pre k = true) : rowsM ss (pre ++ [x]) = rowsM ss pre := by
  unfold rowsM
  apply List.map_congr_left
  intro i _
  rw [rowM_snoc]
  by_cases h : wrB pre i = true
  · rw [if_pos h]
  · rw [if_neg h]
    by_cases he : x.1 = (i : Int)
    · have : i = k := by omega
      subst this
      exact absurd hw h
    · rw [if_neg he]
theorem flagsM_old (n : Nat) (pre : List (Int × List Int)) (x : Int × List Int) (k : Nat) (hx : x.1 = (k : Int)) (hw : wrB pre k = true) : flagsM n (pre ++ [x]) = flagsM n pre := by
  unfold flagsM
  apply List.map_congr_left
  intro i _
  rw [wrB_snoc]
  by_cases he : x.1 = (i : Int)
  · have : i = k := by omega
    subst this
    rw [hw]; rfl
  · have : (x.1 == (i : Int)) = false := by simpa using he
    rw [this, Bool.or_false]
theorem rowsM_new (ss : List (List Int)) (pre : List (Int × List Int)) (x : Int × List Int) (k : Nat) (hx : x.1 = (k : Int)) (hw : wrB pre k = false) (_hk : k < ss.length) : rowsM ss (pre ++ [x]) = (rowsM ss pre).set k x.2 := by
  apply List.ext_getElem
  · simp [rowsM]
  · intro i h1 h2
    have hi : i < ss.length := by simpa [rowsM] using h1
    rw [List.getElem_set]
    simp only [rowsM, List.getElem_map, List.getElem_range]
    rw [rowM_snoc]
    by_cases he : k = i
    · subst he
      rw [if_pos rfl, if_neg (by simp [hw]), if_pos hx]
    · rw [if_neg he, if_neg (by omega : ¬ x.1 = (i : Int))]
      split <;> rfl
theorem flagsM_new (n : Nat) (pre : List (Int × List Int)) (x : Int × List Int) (k : Nat) (hx : x.1 = (k : Int)) : flagsM n (pre ++ [x]) = (flagsM n pre).set k (.bool true) := by
  apply List.ext_getElem
  · simp [flagsM]
  · intro i h1 h2
    rw [List.getElem_set]
    simp only [flagsM, List.getElem_map, List.getElem_range]
    rw [wrB_snoc]
    by_cases he : k = i
    · subst he
      rw [if_pos rfl, hx]; simp
    · have : (x.1 == (i : Int)) = false := by simp; omega
      rw [if_neg he, this, Bool.or_false]
end Go.Proofs.Ytfejnfohbagnkaa
