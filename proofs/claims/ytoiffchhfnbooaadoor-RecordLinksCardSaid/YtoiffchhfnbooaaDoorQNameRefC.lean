/-
  Contracts over the document's own names: patterns, joining, what a name goes on, equal texts.
-/
import Derived.Test.YtoiffchhfnbooaaDoorQRecMath
import Derived.Test.YtoiffchhfnbooaaDoorQRowRel
import Derived.StillTailTactics
import Derived.Test.YtoiffchhfnbooaaDoorQShaPad
import Derived.Lib.IndexAny
import Derived.Deep.QuietTactic
namespace Go.Proofs.YtoiffchhfnbooaaDoor
set_option linter.unusedVariables false
set_option linter.unusedSimpArgs false
open Go.RowKit
set_option linter.unusedVariables false
set_option linter.unusedSimpArgs false

theorem strOf_two (s : ByteArray) (m : List Nat) (hm : ∀ x ∈ m, x < 256) : ((strOf m).toList == s.toList) = decide (m = nats s) := by
  rw [Bool.eq_iff_iff, beq_iff_eq, decide_eq_true_iff, ByteArray.toList_eq, ByteArray.toList_eq]
  constructor
  · intro e; rw [← nats_strOf m hm, data_inj e]
  · intro e; rw [e, strOf_nats]
def okP (c : Nat) : Prop := plainB c = true ∨ c = 42 ∨ c = 37
theorem pat_len {l : List Nat} (h : ∀ c ∈ l, okP c) : patB l = decide (l.length ≤ 80) := by
  unfold patB
  rw [Bool.eq_iff_iff, decide_eq_true_iff, decide_eq_true_iff]
  exact ⟨fun e => e.1, fun e => ⟨e, h⟩⟩
theorem pat_stop {l : List Nat} {k x : Nat} (hx : l[k]? = some x) (h : ¬ okP x) : patB l = false := decide_eq_false fun e => h (e.2 x (List.mem_of_getElem? hx))
theorem pat_long {l : List Nat} (h : 80 < l.length) : patB l = false := decide_eq_false fun e => by omega
theorem okP_snoc {l : List Nat} {k x : Nat} (h : ∀ c ∈ l.take k, okP c) (hx : l[k]? = some x) (h2 : okP x) : ∀ c ∈ l.take (k + 1), okP c := by
  rw [take_snoc_n _ _ _ hx]
  intro c hc
  rcases List.mem_append.1 hc with h1 | h1
  · exact h c h1
  · rw [List.mem_singleton.1 h1]; exact h2

def joinE (b p : List Nat) : Int := if patB (b ++ p) = true then 0 else 3
def joinV (b p : List Nat) : List Nat := if patB (b ++ p) = true then b ++ p else []
def abvP (l : List Nat) (k : Nat) : List (List Nat) := (List.range k).filterMap fun i => if l[i]? = some 47 then some (l.take i) else none
theorem abv_snoc (l : List Nat) (k : Nat) : abvP l (k + 1) = abvP l k ++ (if l[k]? = some 47 then [l.take k] else []) := by
  unfold abvP
  rw [List.range_succ, List.filterMap_append]
  by_cases h : l[k]? = some 47 <;> simp [h]
theorem abv_len (l : List Nat) : ∀ k, (abvP l k).length ≤ k := fun k => by
  have := List.length_filterMap_le (fun i => if l[i]? = some 47 then some (l.take i) else none) (List.range k)
  rw [List.length_range] at this
  exact this
theorem abv_mem {l p : List Nat} {k : Nat} (h : p ∈ abvP l k) : ∃ i, i < k ∧ l[i]? = some 47 ∧ p = l.take i := by
  obtain ⟨i, hi, h2⟩ := List.mem_filterMap.1 h
  by_cases h3 : l[i]? = some 47
  · rw [if_pos h3] at h2
    exact ⟨i, List.mem_range.1 hi, h3, (Option.some.inj h2).symm⟩
  · rw [if_neg h3] at h2; cases h2
theorem extract_strOf (s : ByteArray) (k : Nat) : s.extract 0 k = strOf ((nats s).take k) := nats_inj (by
  rw [nats_strOf _ (fun x hx => nats_lt s x (List.mem_of_mem_take hx)), nats_extract, List.drop_zero, Nat.sub_zero])

def GiveS (w : World) (l : List (List Nat)) (e : Ending) (w' : World) : Prop := ∃ A n c, e = .returned (.slice A n c) ∧ OwnS w' w.heap.size A n c l ∧ Below w.heap.size w w'
theorem above_len (l : List Nat) : (aboveN l).length ≤ l.length := by
  unfold aboveN
  split
  · exact abv_len l l.length
  · exact Nat.zero_le _
theorem above_lt {l p : List Nat} (hl : ∀ x ∈ l, x < 256) (h : p ∈ aboveN l) : ∀ x ∈ p, x < 256 := by
  unfold aboveN at h
  split at h
  · obtain ⟨i, _, _, rfl⟩ := abv_mem (k := l.length) h
    exact fun x hx => hl x (List.mem_of_mem_take hx)
  · cases h

theorem ne_atB {l r : List ByteArray} {k : Nat} {x y : ByteArray} (hx : l[k]? = some x) (hy : r[k]? = some y) (h : x ≠ y) : l ≠ r := fun e => by
  rw [e, hy] at hx; exact h (Option.some.inj hx).symm
end Go.Proofs.YtoiffchhfnbooaaDoor

/-
  Contracts over the document's own names: the table of which beginnings of a name are like which beginnings of a pattern; what is like what.
-/
namespace Go.Proofs.YtoiffchhfnbooaaDoor
set_option linter.unusedVariables false
set_option linter.unusedSimpArgs false
open Go.RowKit
set_option linter.unusedVariables false
set_option linter.unusedSimpArgs false

theorem list_over {P : Program} {ops : Array Oper} {Q : Exit → Act → World → Prop} {rest : List Oper} {a : Act} {W : World} (F : World → Prop) (hF : F W) (h : ∀ W', F W' → wpList P ops Q rest a W') : wpList P ops Q rest a W := h W hF
/-- block g is just a row of bools -/
def BRow (w : World) (g : Nat) (vs : List Bool) : Prop := w.heap[g]? = some (.cells (vs.map Value.bool).toArray 4 (0, 0))
section
variable {w w' : World} {g : Nat} {vs : List Bool}
theorem BRow.lt (h : BRow w g vs) : g < w.heap.size := (Array.getElem?_eq_some_iff.1 h).1
theorem BRow.cell (h : BRow w g vs) {i : Nat} {b : Bool} (hb : vs[i]? = some b) : w.cell? ⟨g, i, none⟩ = some (.bool b) := by
  rw [cell_of_row w g i _ _ (0, 0) h]
  simp [hb]
theorem BRow.frozen (h : BRow w g vs) (i : Nat) : w.frozen? ⟨g, i, none⟩ = false := frozen_of_row w g i _ _ h
theorem BRow.put (h : BRow w g vs) (i : Nat) (b : Bool) : BRow (w.setCell ⟨g, i, none⟩ (.bool b)) g (vs.set i b) := by
  unfold BRow
  rw [heap_setCell_same w g i _ _ _ h]
  congr 2
  apply Array.ext'
  simp [List.map_set]
theorem BRow.far (h : BRow w g vs) {g' : Nat} (hne : g ≠ g') (i : Nat) (v : Value) : BRow (w.setCell ⟨g', i, none⟩ v) g vs := (Below.heap_setCell w ⟨g', i, none⟩ v g hne).trans h
theorem BRow.alloc (h : BRow w g vs) (o : Obj) : BRow (w.alloc o) g vs := (Below.heap_alloc w o g h.lt).trans h
theorem BRow.new (w : World) (n : Nat) : BRow (w.alloc (.cells (Array.replicate n (Value.bool false)) 4)) w.heap.size (List.replicate n false) := by
  unfold BRow
  rw [heap_alloc_new w _, List.map_replicate, List.toArray_replicate]
theorem BRow.drew (h : BRow w g vs) : BRow w.drew g vs := h
end
/-- a row of m bools that a function says -/
def fnV (m : Nat) (f : Nat → Bool) : List Bool := (List.range m).map f
theorem fnV_get {m j : Nat} (f : Nat → Bool) (h : j < m) : (fnV m f)[j]? = some (f j) := by
  unfold fnV
  rw [List.getElem?_map, List.getElem?_range h]; rfl
theorem fnV_ext {m : Nat} {f g : Nat → Bool} (h : ∀ j, j < m → f j = g j) : fnV m f = fnV m g := List.map_congr_left fun j hj => h j (List.mem_range.1 hj)
theorem fnV_set {m k : Nat} {f g : Nat → Bool} {b : Bool} (hk : k < m) (hb : g k = b) (h : ∀ j, j < m → j ≠ k → g j = f j) : (fnV m f).set k b = fnV m g := by
  apply List.ext_getElem?
  intro j
  by_cases hj : j < m
  · rw [fnV_get g hj]
    by_cases he : k = j
    · subst he
      rw [List.getElem?_set_self (by unfold fnV; rw [List.length_map, List.length_range]; exact hk), hb]
    · rw [List.getElem?_set_ne he, fnV_get f hj, h j hj (Ne.symm he)]
  · rw [List.getElem?_eq_none (by unfold fnV; rw [List.length_set, List.length_map, List.length_range]; omega), List.getElem?_eq_none (by unfold fnV; rw [List.length_map, List.length_range]; omega)]
theorem fnV_zero (m : Nat) : List.replicate m false = fnV m fun _ => false := by
  unfold fnV
  exact (List.eq_replicate_iff.2 ⟨by simp, by simp⟩).symm
/-- row i of the table -/
def rowF (p s : List Nat) (i k : Nat) : Bool := likeF (p.take i) (s.take k)
def halfF (p s : List Nat) (i k j : Nat) : Bool := if j < k then rowF p s (i + 1) j else false
theorem row_zero {p s : List Nat} {m : Nat} (hm : m = s.length + 1) : (List.replicate m false).set 0 true = fnV m (rowF p s 0) := by
  rw [fnV_zero]
  refine fnV_set (by omega) ?_ fun j hj h0 => ?_
  · unfold rowF; rw [List.take_zero, like_nil_s]; rfl
  · unfold rowF
    rw [List.take_zero, like_nil_s, decide_eq_false_iff_not]
    intro e
    have := congrArg List.length e
    rw [List.length_take, List.length_nil] at this
    omega
theorem half_one {p s : List Nat} {m i : Nat} {b : Bool} (hm : 0 < m) (hb : rowF p s (i + 1) 0 = b) : (List.replicate m false).set 0 b = fnV m (halfF p s i 1) := by
  rw [fnV_zero]
  refine fnV_set hm ?_ fun j hj h0 => ?_
  · unfold halfF; rw [if_pos (by omega)]; exact hb
  · unfold halfF; rw [if_neg (by omega)]
theorem half_more {p s : List Nat} {m i k : Nat} {b : Bool} (hk : k < m) (hb : rowF p s (i + 1) k = b) : (fnV m (halfF p s i k)).set k b = fnV m (halfF p s i (k + 1)) := by
  refine fnV_set hk ?_ fun j hj h0 => ?_
  · unfold halfF; rw [if_pos (by omega)]; exact hb
  · unfold halfF
    by_cases h : j < k
    · rw [if_pos h, if_pos (by omega)]
    · rw [if_neg h, if_neg (by omega)]
theorem half_all {p s : List Nat} {m i : Nat} : fnV m (halfF p s i m) = fnV m (rowF p s (i + 1)) := fnV_ext fun j hj => by unfold halfF; rw [if_pos hj]
theorem row_first {p s : List Nat} {i c : Nat} (hc : p[i]? = some c) : rowF p s (i + 1) 0 = (wildB c && rowF p s i 0) := by
  unfold rowF
  rw [take_snoc_n _ _ _ hc, List.take_zero, like_zero]
theorem row_wild {p s : List Nat} {i k c x : Nat} (hc : p[i]? = some c) (hx : s[k]? = some x) (h : wildB c = true) : rowF p s (i + 1) (k + 1) = (rowF p s i (k + 1) || (rowF p s (i + 1) k && (decide (c = 42) || decide (x ≠ 47)))) := by
  unfold rowF
  rw [take_snoc_n _ _ _ hc, take_snoc_n _ _ _ hx, like_wild _ _ _ _ h]
theorem row_one {p s : List Nat} {i k c x : Nat} (hc : p[i]? = some c) (hx : s[k]? = some x) (h : wildB c = false) : rowF p s (i + 1) (k + 1) = (rowF p s i k && decide (x = c)) := by
  unfold rowF
  rw [take_snoc_n _ _ _ hc, take_snoc_n _ _ _ hx, like_one _ _ _ _ h]
end Go.Proofs.YtoiffchhfnbooaaDoor

/-
  Plain mathematics for the program's own way with names: its parts, INBOX ahead of the first /, rows of a fixed length.
-/
namespace Go.Proofs.YtoiffchhfnbooaaDoor
set_option linter.unusedVariables false
set_option linter.unusedSimpArgs false
set_option linter.unusedVariables false
set_option linter.unusedSimpArgs false

theorem splitGo_count (c : Nat) : ∀ (l cur : List Nat), (splitGo c cur l).length = l.count c + 1
  | [], cur => rfl
  | x :: l, cur => by
    unfold splitGo
    by_cases h : x = c
    · subst h
      rw [if_pos rfl, List.length_cons, splitGo_count x l, List.count_cons_self]
    · rw [if_neg h, splitGo_count c l, List.count_cons_of_ne h]
theorem split_count (c : Nat) (l : List Nat) : (splitL c l).length = l.count c + 1 := splitGo_count c l []
def EndE (l : List Nat) : Prop := ∃ i, i < l.length ∧ l.getD i 0 = 47 ∧ (i + 1 = l.length ∨ l.getD (i + 1) 0 = 47)
theorem EndE.cons {x : Nat} {l : List Nat} : EndE (x :: l) ↔ (x = 47 ∧ (l = [] ∨ l.getD 0 0 = 47)) ∨ EndE l := by
  constructor
  · rintro ⟨i, h1, h2, h3⟩
    cases i with
    | zero =>
      refine .inl ⟨by simpa using h2, ?_⟩
      rcases h3 with h3 | h3
      · left
        simp only [List.length_cons] at h3
        exact List.eq_nil_of_length_eq_zero (by omega)
      · right; simpa using h3
    | succ i =>
      refine .inr ⟨i, by simpa using h1, by simpa using h2, ?_⟩
      rcases h3 with h3 | h3
      · left; simpa using h3
      · right; simpa using h3
  · rintro (⟨rfl, h⟩ | ⟨i, h1, h2, h3⟩)
    · refine ⟨0, by simp, by simp, ?_⟩
      rcases h with rfl | h
      · left; rfl
      · right; simpa using h
    · refine ⟨i + 1, by simpa using h1, by simpa using h2, ?_⟩
      rcases h3 with h3 | h3
      · left; simpa using h3
      · right; simpa using h3
theorem EndE.nil : ¬ EndE [] := fun ⟨i, h, _⟩ => by simp at h
theorem splitGo_empty : ∀ (l cur : List Nat), [] ∈ splitGo 47 cur l ↔ (cur = [] ∧ (l = [] ∨ l.getD 0 0 = 47)) ∨ EndE l
  | [], cur => by
    unfold splitGo
    rw [List.mem_singleton]
    constructor
    · intro h; exact .inl ⟨h.symm, .inl rfl⟩
    · rintro (h | h)
      · exact h.1.symm
      · exact absurd h EndE.nil
  | x :: l, cur => by
    unfold splitGo
    rw [EndE.cons]
    by_cases h : x = 47
    · rw [if_pos h, List.mem_cons, splitGo_empty l []]
      subst h
      constructor
      · rintro (h | h | h)
        · exact .inl ⟨h.symm, .inr rfl⟩
        · exact .inr (.inl ⟨rfl, h.2⟩)
        · exact .inr (.inr h)
      · rintro (h | h | h)
        · exact .inl h.1.symm
        · exact .inr (.inl ⟨rfl, h.2⟩)
        · exact .inr (.inr h)
    · rw [if_neg h, splitGo_empty l (cur ++ [x])]
      constructor
      · rintro (⟨h1, _⟩ | h2)
        · simp at h1
        · exact .inr (.inr h2)
      · rintro (⟨_, h1⟩ | ⟨h1, _⟩ | h2)
        · rcases h1 with h1 | h1
          · cases h1
          · exact absurd h1 h
        · exact absurd h1 h
        · exact .inr h2
theorem split_empty (l : List Nat) : [] ∈ splitL 47 l ↔ l = [] ∨ l.getD 0 0 = 47 ∨ EndE l := by
  rw [show ([] ∈ splitL 47 l) ↔ ([] ∈ splitGo 47 [] l) from Iff.rfl, splitGo_empty]
  constructor
  · rintro (⟨_, h | h⟩ | h)
    · exact .inl h
    · exact .inr (.inl h)
    · exact .inr (.inr h)
  · rintro (h | h | h)
    · exact .inl ⟨rfl, .inl h⟩
    · exact .inl ⟨rfl, .inr h⟩
    · exact .inr h
theorem getD_out {l : List Nat} {i : Nat} (h : l.length ≤ i) : l.getD i 0 = 0 := by
  rw [List.getD_eq_getElem?_getD, List.getElem?_eq_none h]; rfl
theorem getD_here {l : List Nat} {i : Nat} (h : i < l.length) : l.getD i 0 = l[i] := by
  rw [List.getD_eq_getElem?_getD, List.getElem?_eq_getElem h]; rfl
theorem getD_lt {l : List Nat} {i : Nat} (h : l.getD i 0 = 47) : i < l.length := by
  by_cases hi : i < l.length
  · exact hi
  · rw [getD_out (by omega)] at h; cases h
theorem bad_iff (l : List Nat) : (∃ i, i < l.length ∧ (l.getD i 0 = 47 ∧ (i = 0 ∨ i + 1 = l.length ∨ l.getD (i - 1) 0 = 47))) ↔ l.getD 0 0 = 47 ∨ EndE l := by
  constructor
  · rintro ⟨i, h1, h2, h3⟩
    by_cases hi : i = 0
    · subst hi; exact .inl h2
    · rcases h3 with h3 | h3 | h3
      · exact absurd h3 hi
      · exact .inr ⟨i, h1, h2, .inl h3⟩
      · exact .inr ⟨i - 1, by omega, h3, .inr (by rw [show i - 1 + 1 = i by omega]; exact h2)⟩
  · rintro (h | ⟨i, h1, h2, h3⟩)
    · exact ⟨0, getD_lt h, h, .inl rfl⟩
    · rcases h3 with h3 | h3
      · exact ⟨i, h1, h2, .inr (.inl h3)⟩
      · exact ⟨i + 1, getD_lt h3, h3, .inr (.inr (by rw [Nat.add_sub_cancel]; exact h2))⟩
def nameB (l : List Nat) : Bool := decide (l.length ≤ 40 ∧ (∀ x ∈ l, plainB x = true) ∧ (splitL 47 l).length ≤ 4 ∧ [] ∉ splitL 47 l)
theorem nameB_is (l : List Nat) : nameB l = formB l := by
  unfold nameB formB
  rw [decide_eq_decide]
  rw [split_count, split_empty]
  constructor
  · rintro ⟨h1, h2, h3, h4⟩
    refine ⟨?_, h1, fun i hi => ?_, by omega⟩
    · rcases l with _ | ⟨x, l⟩
      · exact absurd (.inl rfl) h4
      · exact Nat.succ_le_succ (Nat.zero_le _)
    · refine spot_mk ?_ fun hb => h4 (.inr ((bad_iff l).1 ⟨i, hi, hb⟩))
      rw [getD_here hi]
      exact h2 _ (List.getElem_mem hi)
  · rintro ⟨h1, h2, h3, h4⟩
    refine ⟨h2, fun x hx => ?_, by omega, ?_⟩
    · obtain ⟨i, hi, rfl⟩ := List.mem_iff_getElem.1 hx
      have := (spot_of (h3 i hi)).1
      rwa [getD_here hi] at this
    · rintro (h | h)
      · subst h; simp at h1
      · obtain ⟨i, hi, hb⟩ := (bad_iff l).2 h
        exact (spot_of (h3 i hi)).2 hb
theorem nameB_long {l : List Nat} (h : 40 < l.length) : formB l = false := by
  rw [← nameB_is]; exact decide_eq_false fun e => by omega
theorem nameB_stop {l : List Nat} {k x : Nat} (hx : l[k]? = some x) (h : plainB x = false) : formB l = false := by
  rw [← nameB_is]
  refine decide_eq_false fun e => ?_
  rw [e.2.1 x (List.mem_of_getElem? hx)] at h; cases h
theorem nameB_all {l : List Nat} (h1 : l.length ≤ 40) (h2 : ∀ x ∈ l, plainB x = true) : formB l = (decide ((splitL 47 l).length ≤ 4) && !decide ([] ∈ splitL 47 l)) := by
  rw [← nameB_is]
  unfold nameB
  rw [Bool.eq_iff_iff]
  simp only [decide_eq_true_iff, Bool.and_eq_true, Bool.not_eq_true', decide_eq_false_iff_not]
  exact ⟨fun h => ⟨h.2.2.1, h.2.2.2⟩, fun h => ⟨h1, h2, h.1, h.2⟩⟩

/-! INBOX ahead of the first / -/
theorem small_up {x d : Nat} (h : 65 ≤ d ∧ d ≤ 90) : smallN x = smallN d ↔ upC x = d := by
  unfold smallN upC
  rw [if_pos h]
  split <;> split <;> omega
theorem small_ups : ∀ (a b : List Nat), (∀ d ∈ b, 65 ≤ d ∧ d ≤ 90) → (a.map smallN = b.map smallN ↔ a.map upC = b)
  | [], [], _ => by simp
  | [], _ :: _, _ => by simp
  | _ :: _, [], _ => by simp
  | x :: a, d :: b, h => by
    rw [List.map_cons, List.map_cons, List.map_cons, List.cons.injEq, List.cons.injEq, small_up (h d (List.mem_cons_self ..)), small_ups a b fun y hy => h y (List.mem_cons_of_mem _ hy)]
theorem inboxL_letters : ∀ d ∈ inboxL, 65 ≤ d ∧ d ≤ 90 := by decide
theorem same_inbox (a : List Nat) : sameB a inboxL = decide (a.map upC = inboxL) := by
  unfold sameB
  rw [decide_eq_decide]
  exact small_ups a inboxL inboxL_letters
theorem inbox_none {l : List Nat} (h : ∀ x ∈ l, x ≠ 47) : inboxB l = sameB l inboxL := by
  rw [same_inbox]
  unfold inboxB
  rw [decide_eq_decide]
  constructor
  · rintro ⟨h1, h2 | h2⟩
    · rwa [List.take_of_length_le (by omega)] at h1
    · exact absurd rfl (h 47 (List.mem_of_getElem? h2))
  · intro h1
    have h5 : l.length = 5 := by have := congrArg List.length h1; rw [List.length_map] at this; exact this
    exact ⟨by rw [List.take_of_length_le (by omega)]; exact h1, .inl h5⟩
theorem inbox_hit {l p r : List Nat} (e : l = p ++ 47 :: r) (h : ∀ x ∈ p, x ≠ 47) : inboxB l = sameB p inboxL := by
  rw [same_inbox]
  unfold inboxB
  rw [decide_eq_decide]
  subst e
  constructor
  · rintro ⟨h1, h2⟩
    rcases Nat.lt_trichotomy p.length 5 with h5 | h5 | h5
    · exfalso
      have e1 := congrArg (·[p.length]?) h1
      simp only [List.getElem?_map, List.getElem?_take_of_lt h5, List.getElem?_append_right (Nat.le_refl _), Nat.sub_self, List.getElem?_cons_zero, Option.map_some] at e1
      have : upC 47 ∈ inboxL := List.mem_of_getElem? e1.symm
      exact absurd this (by decide)
    · rwa [List.take_left' h5] at h1
    · exfalso
      rcases h2 with h2 | h2
      · simp at h2; omega
      · rw [List.getElem?_append_left h5] at h2
        exact h 47 (List.mem_of_getElem? h2) rfl
  · intro h1
    have h5 : p.length = 5 := by have := congrArg List.length h1; rw [List.length_map] at this; exact this
    exact ⟨by rw [List.take_left' h5]; exact h1, .inr (by rw [List.getElem?_append_right (by omega), h5]; rfl)⟩

/-! rows of 41 -/
/-- what of a name's beginnings is like the first i bytes of a pattern; those beyond its end aren't there -/
def arrF (p s : List Nat) (i j : Nat) : Bool := if j ≤ s.length then rowF p s i j else false
def newF (p s : List Nat) (i k j : Nat) : Bool := if j ≤ k then arrF p s (i + 1) j else false
def midF (p s : List Nat) (i k j : Nat) : Bool := if j ≤ k then arrF p s (i + 1) j else arrF p s i j
theorem arr_zero {p s : List Nat} {m : Nat} (hm : 0 < m) : (List.replicate m false).set 0 true = fnV m (arrF p s 0) := by
  rw [fnV_zero]
  refine fnV_set hm ?_ fun j hj h0 => ?_
  · unfold arrF rowF; rw [if_pos (Nat.zero_le _), List.take_zero, like_nil_s]; rfl
  · unfold arrF
    split
    · unfold rowF
      rw [List.take_zero, like_nil_s, decide_eq_false_iff_not]
      intro e
      have := congrArg List.length e
      rw [List.length_take, List.length_nil] at this
      omega
    · rfl
theorem arr_in {p s : List Nat} {i j : Nat} (h : j ≤ s.length) : arrF p s i j = rowF p s i j := if_pos h
theorem new_zero {p s : List Nat} {m i c : Nat} (hc : p[i]? = some c) (hw : wildB c = false) : List.replicate m false = fnV m (newF p s i 0) := by
  rw [fnV_zero]
  refine fnV_ext fun j hj => ?_
  unfold newF
  split
  · rw [show j = 0 by omega, arr_in (Nat.zero_le _), row_first hc, hw]; rfl
  · rfl
theorem new_more {p s : List Nat} {m i k c x : Nat} (hc : p[i]? = some c) (hx : s[k]? = some x) (hw : wildB c = false) (hk : k + 1 < m) : (fnV m (newF p s i k)).set (k + 1) (arrF p s i k && decide (x = c)) = fnV m (newF p s i (k + 1)) := by
  have hl : k < s.length := (List.getElem?_eq_some_iff.1 hx).1
  refine fnV_set hk ?_ fun j hj h0 => ?_
  · unfold newF; rw [if_pos (Nat.le_refl _), arr_in (by omega), arr_in (by omega), row_one hc hx hw]
  · unfold newF
    by_cases h : j ≤ k
    · rw [if_pos h, if_pos (by omega)]
    · rw [if_neg h, if_neg (by omega)]
theorem new_all {p s : List Nat} {m i : Nat} : fnV m (newF p s i s.length) = fnV m (arrF p s (i + 1)) := fnV_ext fun j hj => by
  unfold newF arrF
  split
  · rfl
  · rfl
theorem mid_zero {p s : List Nat} {m i c : Nat} (hc : p[i]? = some c) (hw : wildB c = true) : fnV m (arrF p s i) = fnV m (midF p s i 0) := fnV_ext fun j hj => by
  unfold midF
  split
  · rw [show j = 0 by omega, arr_in (Nat.zero_le _), arr_in (Nat.zero_le _), row_first hc, hw]; rfl
  · rfl
theorem mid_at {p s : List Nat} {i k : Nat} (h : k ≤ s.length) : midF p s i k k = rowF p s (i + 1) k := by
  unfold midF; rw [if_pos (Nat.le_refl _), arr_in h]
theorem mid_yes {p s : List Nat} {m i k c x : Nat} (hc : p[i]? = some c) (hx : s[k]? = some x) (hw : wildB c = true) (hk : k + 1 < m) (h : (rowF p s (i + 1) k && (decide (c = 42) || decide (x ≠ 47))) = true) : (fnV m (midF p s i k)).set (k + 1) true = fnV m (midF p s i (k + 1)) := by
  have hl : k < s.length := (List.getElem?_eq_some_iff.1 hx).1
  refine fnV_set hk ?_ fun j hj h0 => ?_
  · unfold midF; rw [if_pos (Nat.le_refl _), arr_in (by omega), row_wild hc hx hw, h, Bool.or_true]
  · unfold midF
    by_cases h : j ≤ k
    · rw [if_pos h, if_pos (by omega)]
    · rw [if_neg h, if_neg (by omega)]
theorem mid_no {p s : List Nat} {m i k c x : Nat} (hc : p[i]? = some c) (hx : s[k]? = some x) (hw : wildB c = true) (h : (rowF p s (i + 1) k && (decide (c = 42) || decide (x ≠ 47))) = false) : fnV m (midF p s i k) = fnV m (midF p s i (k + 1)) := fnV_ext fun j hj => by
  have hl : k < s.length := (List.getElem?_eq_some_iff.1 hx).1
  unfold midF
  by_cases h1 : j ≤ k
  · rw [if_pos h1, if_pos (by omega)]
  · rw [if_neg h1]
    by_cases h2 : j = k + 1
    · rw [if_pos (by omega), h2, arr_in (by omega), arr_in (by omega), row_wild hc hx hw, h, Bool.or_false]
    · rw [if_neg (by omega)]
theorem mid_all {p s : List Nat} {m i : Nat} : fnV m (midF p s i s.length) = fnV m (arrF p s (i + 1)) := fnV_ext fun j hj => by
  unfold midF arrF
  split
  · rfl
  · rfl
end Go.Proofs.YtoiffchhfnbooaaDoor

/-
  The library's functions that package name calls: their contracts in the words of lists of bytes as numbers: IndexByte, Split, Cut, Contains; letters small or great.
-/
namespace Go.Proofs.YtoiffchhfnbooaaDoor
set_option linter.unusedVariables false
set_option linter.unusedSimpArgs false
open Go.RowKit
open Go.Lib hiding intOf
set_option linter.unusedVariables false
set_option linter.unusedSimpArgs false

def barredL : List UInt8 := [40, 41, 123, 37, 42, 34, 92]
theorem indexByte_any (s : ByteArray) (c : Int) (w : World) : Calls Tryd.prog 74 #[.string s, .int .u8 c] w fun e w' => e = .returned (.int .i64 (indexByte s.data.toList c.toNat.toUInt8)) ∧ w = w' :=
  (Any.strings_IndexByte nS137 s c w).mono fun _ _ h => ⟨h.1, h.2.symm⟩
theorem barred_ge (c : Nat) (h : c < 256) : (c = 40 ∨ c = 41 ∨ c = 123 ∨ c = 37 ∨ c = 42 ∨ c = 34 ∨ c = 92) ↔ 0 ≤ indexByte barredL (c.toUInt8) := by
  have h1 := contains_iff_indexByte barredL c.toUInt8
  have h2 : barredL.contains c.toUInt8 = decide (c = 40 ∨ c = 41 ∨ c = 123 ∨ c = 37 ∨ c = 42 ∨ c = 34 ∨ c = 92) := by
    have : ∀ c : Fin 256, barredL.contains c.val.toUInt8 = decide (c.val = 40 ∨ c.val = 41 ∨ c.val = 123 ∨ c.val = 37 ∨ c.val = 42 ∨ c.val = 34 ∨ c.val = 92) := by decide +kernel
    exact this ⟨c, h⟩
  rw [h2] at h1
  exact decide_eq_decide.1 h1

/-! splitting at / -/
theorem genSplit_one (s : ByteArray) (hs : s.size < 4294967281) (c : UInt8) (n : Int) (N : Nat) (hn0 : n ≠ 0) (hn63 : n ≤ 9223372036854775807) (hN : (N : Int) = min (if n < 0 then (countB s ⟨#[c]⟩ : Int) + 1 else n) ((s.size : Int) + 1)) (w : World) :
    Calls Tryd.prog 75 #[.string s, .string ⟨#[c]⟩, .int .i64 0, .int .i64 n] w fun e w' =>
      e = .returned (.slice (some ⟨w.heap.size, 0, none⟩) (splitB ⟨#[c]⟩ 0 (N - 1) s).length N) ∧ w' = w.alloc (.cells (cellsOf (splitB ⟨#[c]⟩ 0 (N - 1) s) N) 9) := by
  refine Any.strings_genSplit_core nS221 (by kernel_rfl) s ⟨#[c]⟩ 0 n N w hs (Nat.le_refl _) (Nat.zero_le _) ?_ ?_ hn0 hn63 hN
  · intro x cs hx
    refine (Any.strings_Index_one nS143 x c _).mono ?_
    rintro e w' ⟨rfl, rfl⟩
    exact ⟨by rw [show indexB x ⟨#[c]⟩ = indexByte x.data.toList c from index_one _ _], rfl⟩
  · refine (Any.strings_Count_one nS138 s c w).mono ?_
    rintro e w' ⟨rfl, rfl⟩
    refine ⟨?_, rfl⟩
    rw [show countB s ⟨#[c]⟩ = countByte s.data.toList c from count_one _ _]
theorem strs_new (w : World) (L : List ByteArray) (c : Array Value) (t : TypeId) (hc : ∀ (i : Nat) (s : ByteArray), L[i]? = some s → c[i]? = some (Value.string s)) : Strs (w.alloc (.cells c t)) w.heap.size 0 (L.map nats) := by
  intro i p hp
  rw [List.getElem?_map] at hp
  obtain ⟨s, hs, rfl⟩ := Option.map_eq_some_iff.1 hp
  rw [Nat.zero_add, strOf_nats, cell_of_row (w.alloc (.cells c t)) w.heap.size i c t (0, 0) (heap_alloc_new w _), hc i s hs]
set_option maxRecDepth 20000 in
set_option maxHeartbeats 400000 in
theorem split_any (s : ByteArray) (hs : s.size < 4294967281) (c : UInt8) (w : World) : Calls Tryd.prog 70 #[.string s, .string ⟨#[c]⟩] w fun e w' =>
    e = .returned (.slice (some ⟨w.heap.size, 0, none⟩) (splitL c.toNat (nats s)).length (splitL c.toNat (nats s)).length) ∧ Below w.heap.size w w' ∧ Strs w' w.heap.size 0 (splitL c.toNat (nats s)) ∧ w'.heap.size = w.heap.size + 1 := by
  obtain ⟨L, hL⟩ : ∃ L, splitB ⟨#[c]⟩ 0 (countB s ⟨#[c]⟩) s = L := ⟨_, rfl⟩
  have hm := splitB_all_one c (countB s ⟨#[c]⟩) s (Nat.le_refl _)
  have hlen := splitB_all ⟨#[c]⟩ (Nat.le_refl _) 0 _ s rfl
  have hle := countB_le ⟨#[c]⟩ (Nat.le_refl _) s.size s (Nat.le_refl _)
  have cg := genSplit_one s hs c (-1) (countB s ⟨#[c]⟩ + 1) (by decide) (by decide) (by rw [if_pos (by decide)]; omega) w
  rw [Nat.add_sub_cancel, hL] at cg
  rw [hL] at hm hlen
  rw [← hlen, cellsOf_full] at cg
  have hl2 : (splitL c.toNat (nats s)).length = L.length := by rw [← hm, List.length_map]
  have HL := Lib.hid hm
  have H2 := Lib.hid hl2
  clear hm hlen hle hL hl2
  go_enter Tryd.func70, Tryd.ntmps70
  go_wp2_with (go_at_call 75; refine cg.mono ?_; rintro e w' ⟨rfl, hw⟩; rw [hw])
  go_ret
  refine ⟨by rw [H2.out] <;> rfl, (Below.refl _ _).alloc (Nat.le_refl _) _, ?_, by simp⟩
  rw [← HL.out]
  exact strs_new w L _ _ (fun i x hx => by simp [hx])

/-! cutting at / -/
theorem slIndex_any (s : ByteArray) (c : UInt8) (w : World) : Calls Tryd.prog 77 #[.string s, .string ⟨#[c]⟩] w fun e w' => e = .returned (.int .i64 (Lib.indexB s ⟨#[c]⟩)) ∧ w = w' := by
  refine (Any.stringslite_Index_one nS219 s c w).mono ?_
  rintro e w' ⟨rfl, rfl⟩
  exact ⟨by rw [show indexB s ⟨#[c]⟩ = indexByte s.data.toList c from index_one _ _], rfl⟩
def CutIs (s p : ByteArray) : Prop := (p = s ∧ ∀ x ∈ nats s, x ≠ 47) ∨ ∃ q, nats s = nats p ++ 47 :: nats q ∧ ∀ x ∈ nats p, x ≠ 47
set_option maxRecDepth 20000 in
set_option maxHeartbeats 1000000 in
theorem slCut_any (s : ByteArray) (hs : s.size ≤ 140737488355328) (w : World) : Calls Tryd.prog 72 #[.string s, .string ⟨#[47]⟩] w fun e w' =>
    ∃ p q b, e = .returned (.tuple #[.string p, .string q, .bool b]) ∧ CutIs s p ∧ ∃ n, w' = w.drewN n := by
  have CI := Lib.hid (slIndex_any s 47 w)
  rcases indexB_cut s 47 with ⟨h1, h2⟩ | ⟨i, h1, h2, h3, h4⟩
  · have H1 := Lib.hid h1
    have H2 := Lib.hid h2
    clear h1 h2
    go_enter Tryd.func72, Tryd.ntmps72
    go_wp2_with fail
    refine CI.out.mono ?_
    rintro e w' ⟨rfl, rfl⟩
    rw [H2.out]
    go_wp2_with fail
    go_ret3
    exact ⟨_, _, _, rfl, .inl ⟨rfl, H1.out⟩, 0, rfl⟩
  · have H1 := Lib.hid h1
    have H3 := Lib.hid h3
    have H4 := Lib.hid h4
    have c1 : (0 : Int) ≤ (i : Int) := by omega
    have c2 : (i : Int) ≤ (s.size : Int) := by omega
    have c3 : (0 : Int) ≤ (i : Int) + 1 := by omega
    have c4 : (i : Int) + 1 ≤ (s.size : Int) := by omega
    have c5 : IntKind.i64.wrap ((i : Int) + 1) = (i : Int) + 1 := IntWalk.i64_in _ (by omega)
    have c6 : ((i : Int) + 1).toNat = i + 1 := by omega
    have HP : Hid (nats (s.extract 0 i) = (nats s).take i) := Lib.hid (by rw [nats_extract]; simp)
    have HQ : Hid (nats (s.extract (i + 1) s.size) = (nats s).drop (i + 1)) := Lib.hid (by rw [nats_extract, List.take_of_length_le]; rw [List.length_drop, nats_length]; exact Nat.le_refl _)
    clear h1 h3 h4
    go_enter Tryd.func72, Tryd.ntmps72
    go_wp2_with fail
    refine CI.out.mono ?_
    rintro e w' ⟨rfl, rfl⟩
    rw [H1.out]
    go_wp2_with fail
    go_quiet (fail)
    go_wp2_with fail
    go_ret3
    exact ⟨_, _, _, rfl, .inr ⟨s.extract (i + 1) s.size, by rw [HP.out, HQ.out]; exact H4.out, by rw [HP.out]; exact H3.out⟩, _, rfl⟩
theorem sCut_any (s : ByteArray) (hs : s.size ≤ 140737488355328) (w : World) : Calls Tryd.prog 65 #[.string s, .string ⟨#[47]⟩] w fun e w' =>
    ∃ p q b, e = .returned (.tuple #[.string p, .string q, .bool b]) ∧ CutIs s p ∧ ∃ n, w' = w.drewN n := by
  have CI := Lib.hid (slCut_any s hs w)
  go_enter Tryd.func65, Tryd.ntmps65
  go_wp2_with fail
  refine CI.out.mono ?_
  rintro e w' ⟨p, q, b, rfl, h, n, rfl⟩
  have H := Lib.hid h
  clear h CI
  go_wp2_with fail
  go_ret3
  exact ⟨_, _, _, rfl, H.out, n, rfl⟩

/-! is a text among texts? -/
def IdxRes (l : List (List Nat)) (t : ByteArray) (e : Ending) : Prop := ∃ z : Int, e = .returned (.int .i64 z) ∧ decide (0 ≤ z) = decide (nats t ∈ l)
set_option maxRecDepth 20000 in
set_option maxHeartbeats 1000000 in
theorem indexS_any (b o n c : Nat) (l : List (List Nat)) (t : ByteArray) (w : World) (hlen : l.length = n) (hst : 0 < n → Strs w b o l) (hlt : ∀ p ∈ l, ∀ x ∈ p, x < 256) (hn : n ≤ 140737488355328) (A : Option Addr) (hA : 0 < n → A = some ⟨b, o, none⟩) :
    Calls Tryd.prog 76 #[.slice A n c, .string t] w fun e w' => IdxRes l t e ∧ w = w' := by
  have HLT := Lib.hid hlt
  have HLEN := Lib.hid hlen
  have HST := Lib.hid hst
  have HA := Lib.hid hA
  clear hlt hlen hst hA
  go_enter Tryd.func76, Tryd.ntmps76
  go_wp2_with fail
  go_loop [8] (fun i => ∃ k : Nat, k ≤ n ∧ i = .int .i64 (k : Int) ∧ nats t ∉ l.take k) (fun i => n - (intOf i).toNat)
  case atStart => exact ⟨0, Nat.zero_le _, rfl, fun h => by simp at h⟩
  case round =>
    obtain ⟨k, hk, rfl, hm⟩ := hrel
    have HM := Lib.hid hm
    clear hm
    by_cases hlk : k < n
    · obtain ⟨p, hp⟩ : ∃ p, l[k]? = some p := ⟨_, List.getElem?_eq_getElem (by rw [HLEN.out]; exact hlk)⟩
      obtain rfl : A = some ⟨b, o, none⟩ := HA.out (by omega)
      have hcell := HST.out (by omega) k p hp
      have a0 : (0 : Int) ≤ (k : Int) := by omega
      have a1 : (k : Int) < (n : Int) := by omega
      have hq : (t.toList == (strOf p).toList) = decide (p = nats t) := by rw [Bool.beq_comm]; exact strOf_two t p (HLT.out p (List.mem_of_getElem? hp))
      have HP := Lib.hid hp
      clear hp
      by_cases he : p = nats t
      · have hq2 : (t.toList == (strOf p).toList) = true := by rw [hq]; exact decide_eq_true he
        have HR : Hid (decide (0 ≤ (k : Int)) = decide (nats t ∈ l)) := Lib.hid (by rw [decide_eq_true a0, decide_eq_true (he ▸ List.mem_of_getElem? HP.out)])
        clear hq he
        go_wp2_with fail
        go_ret
        exact ⟨⟨_, rfl, HR.out⟩, rfl⟩
      · have hq2 : (t.toList == (strOf p).toList) = false := by rw [hq]; exact decide_eq_false he
        have HM2 : Hid (nats t ∉ l.take (k + 1)) := Lib.hid (by
          rw [take_snoc_l _ _ _ HP.out]
          intro h
          rcases List.mem_append.1 h with h | h
          · exact HM.out h
          · exact he (List.mem_singleton.1 h).symm)
        clear hq he
        go_wp2_with fail
        go_round
        case rel => exact ⟨k + 1, by omega, by go_num, HM2.out⟩
        case measure => simp [intOf]; omega
    · have a1 : ¬ (k : Int) < (n : Int) := by omega
      have HR : Hid (decide (0 ≤ (-1 : Int)) = decide (nats t ∈ l)) := Lib.hid (by
        rw [decide_eq_false (by decide), eq_comm, decide_eq_false_iff_not]
        intro h
        exact HM.out (by rw [List.take_of_length_le (by rw [HLEN.out]; omega)]; exact h))
      go_wp2_with fail
      go_ret
      exact ⟨⟨_, rfl, HR.out⟩, rfl⟩
theorem containsS_any (b o n c : Nat) (l : List (List Nat)) (t : ByteArray) (w : World) (hlen : l.length = n) (hst : 0 < n → Strs w b o l) (hlt : ∀ p ∈ l, ∀ x ∈ p, x < 256) (hn : n ≤ 140737488355328) (A : Option Addr) (hA : 0 < n → A = some ⟨b, o, none⟩) :
    Calls Tryd.prog 71 #[.slice A n c, .string t] w fun e w' => e = .returned (.bool (decide (nats t ∈ l))) ∧ w = w' := by
  have CI := Lib.hid (indexS_any b o n c l t w hlen hst hlt hn A hA)
  clear hlen hst hlt hA
  go_enter Tryd.func71, Tryd.ntmps71
  go_wp2_with fail
  refine CI.out.mono ?_
  rintro e w' ⟨⟨z, rfl, hz⟩, rfl⟩
  have HZ := Lib.hid hz
  clear hz
  go_wp2_with fail
  go_ret
  exact ⟨by rw [HZ.out] <;> rfl, rfl⟩
end Go.Proofs.YtoiffchhfnbooaaDoor

/-
  Contracts over package name: which bytes and texts may be, what is a name, what is a pattern, cleaning, joining, what a name goes on.
-/
namespace Go.Proofs.YtoiffchhfnbooaaDoor
set_option linter.unusedVariables false
set_option linter.unusedSimpArgs false
open Go.RowKit
set_option linter.unusedVariables false
set_option linter.unusedSimpArgs false

theorem dsmall_any (c : Nat) (hc : c < 256) (w : World) : Calls Tryd.prog 73 #[.int .u8 (c : Int)] w fun e w' => e = .returned (.int .u8 (smallN c : Nat)) ∧ w = w' := by
  by_cases h1 : 65 ≤ c
  · by_cases h2 : c ≤ 90
    · have HR : Hid (smallN c = c + 32) := Lib.hid (if_pos ⟨h1, h2⟩)
      go_enter Tryd.func73, Tryd.ntmps73
      go_wp2
      go_ret
      exact ⟨ret_int (by rw [HR.out]; omega), rfl⟩
    · have HR : Hid (smallN c = c) := Lib.hid (if_neg (by omega))
      go_enter Tryd.func73, Tryd.ntmps73
      go_wp2
      go_ret
      exact ⟨by rw [HR.out] <;> rfl, rfl⟩
  · have HR : Hid (smallN c = c) := Lib.hid (if_neg (by omega))
    go_enter Tryd.func73, Tryd.ntmps73
    go_wp2
    go_ret
    exact ⟨by rw [HR.out] <;> rfl, rfl⟩

theorem sameB_at {a b : List Nat} {k x y : Nat} (hx : a[k]? = some x) (hy : b[k]? = some y) (h : smallN x ≠ smallN y) : sameB a b = false := by
  unfold sameB
  refine decide_eq_false fun e => h ?_
  have := congrArg (·[k]?) e
  simpa [hx, hy] using this
set_option maxRecDepth 20000 in
set_option maxHeartbeats 800000 in
theorem same_letters (a b : ByteArray) (ha : a.size ≤ 140737488355328) (hb : b.size ≤ 140737488355328) (w : World) :
    Calls Tryd.prog 66 #[.string a, .string b] w fun e w' => e = .returned (.bool (sameB (nats a) (nats b))) ∧ ∃ n, w' = w.drewN n := by
  by_cases hl : a.size = b.size
  · have HL := Lib.hid hl
    have h64 : a.size ≤ 9223372036854775807 := by omega
    have h65 : b.size ≤ 9223372036854775807 := by omega
    have hle : ((a.size : Int) != b.size) = false := by simp; omega
    clear hl
    go_enter Tryd.func66, Tryd.ntmps66
    go_wp2_with fail
    go_loopw [13] (fun i wx => ∃ k n : Nat, k ≤ a.size ∧ i = .int .i64 (k : Int) ∧ ((nats a).take k).map smallN = ((nats b).take k).map smallN ∧ wx = w.drewN n) (fun i _ => a.size - (intOf i).toNat)
    case atStart => exact ⟨0, 0, Nat.zero_le _, rfl, by simp, rfl⟩
    case round =>
      obtain ⟨k, n, hk, rfl, hm, hw⟩ := hrel
      have HM := Lib.hid hm
      have HW := Lib.hid hw
      clear hm hw
      by_cases hlt : k < a.size
      · have hlb : k < b.size := by have := HL.out; omega
        have hx := nats_byte a k hlt
        have hy := nats_byte b k hlb
        have hxa : a[k].toNat < 256 := a[k].toNat_lt
        have hxb : b[k].toNat < 256 := b[k].toNat_lt
        have HX := Lib.hid hx
        have HY := Lib.hid hy
        have HTA := Lib.hid (take_snoc_n _ _ _ hx)
        have HTB := Lib.hid (take_snoc_n _ _ _ hy)
        have ca := fun W => (dsmall_any a[k].toNat hxa W).mono (fun _ _ h => (⟨h.1, h.2.symm⟩ : _ ∧ _))
        have cb := fun W => (dsmall_any b[k].toNat hxb W).mono (fun _ _ h => (⟨h.1, h.2.symm⟩ : _ ∧ _))
        clear hx hy
        by_cases he : smallN a[k].toNat = smallN b[k].toNat
        · have hne : ((smallN a[k].toNat : Int) != smallN b[k].toNat) = false := by simp; omega
          have HE := Lib.hid he
          clear he
          go_wp2_with fail
          go_quiet ((go_at_call 73; first | (with_reducible exact Calls.quiet_of_same (ca _)) | (with_reducible exact Calls.quiet_of_same (cb _))))
          go_wp2_with fail
          go_roundw
          case rel => exact ⟨k + 1, _, by omega, by go_num, by rw [HTA.out, HTB.out, List.map_append, List.map_append, HM.out, List.map_singleton, List.map_singleton, HE.out], by rw [HW.out]; exact drewN_twice _ _ _⟩
          case measure => simp [intOf]; omega
        · have hne : ((smallN a[k].toNat : Int) != smallN b[k].toNat) = true := by simp; omega
          have HE := Lib.hid he
          clear he
          go_wp2_with fail
          go_quiet ((go_at_call 73; first | (with_reducible exact Calls.quiet_of_same (ca _)) | (with_reducible exact Calls.quiet_of_same (cb _))))
          go_wp2_with fail
          go_ret
          exact ⟨by rw [sameB_at HX.out HY.out HE.out] <;> rfl, _, by rw [HW.out]; exact drewN_twice _ _ _⟩
      · have HR : Hid (sameB (nats a) (nats b) = true) := Lib.hid (by
          have := HM.out
          rw [List.take_of_length_le (by rw [nats_length]; omega), List.take_of_length_le (by rw [nats_length, ← HL.out]; omega)] at this
          exact decide_eq_true this)
        go_wp2_with fail
        go_ret
        exact ⟨by rw [HR.out] <;> rfl, _, HW.out⟩
  · have HR : Hid (sameB (nats a) (nats b) = false) := Lib.hid (by
      cases h : sameB (nats a) (nats b)
      · rfl
      · have := sameB_len h
        rw [nats_length, nats_length] at this
        exact absurd this hl)
    have hle : ((a.size : Int) != b.size) = true := by simp; omega
    clear hl
    go_enter Tryd.func66, Tryd.ntmps66
    go_wp2_with fail
    go_ret
    exact ⟨by rw [HR.out] <;> rfl, 0, rfl⟩



theorem nmplain_any (c : Nat) (hc : c < 256) (w : World) : Calls Tryd.prog 69 #[.int .u8 (c : Int)] w fun e w' => e = .returned (.bool (plainB c)) ∧ w = w' := by
  by_cases h1 : 32 < c
  · by_cases h2 : c ≤ 126
    · have CI : Hid (∀ W, Calls Tryd.prog 74 #[.string ⟨#[40, 41, 123, 37, 42, 34, 92]⟩, .int .u8 (c : Int)] W fun e w' => e = .returned (.int .i64 (Lib.indexByte barredL c.toUInt8)) ∧ W = w') := Lib.hid fun W => by
        have := indexByte_any ⟨#[40, 41, 123, 37, 42, 34, 92]⟩ (c : Int) W
        rwa [Int.toNat_natCast] at this
      have hb := barred_ge c hc
      generalize Lib.indexByte barredL c.toUInt8 = z at CI hb
      have d1 : (32 : Int) < (c : Int) := by omega
      have d2 : (c : Int) ≤ 126 := by omega
      have HR : Hid (plainB c = decide (z < 0)) := Lib.hid (by unfold plainB; rw [decide_eq_decide]; omega)
      clear hb h1 h2
      go_enter Tryd.func69, Tryd.ntmps69
      go_wp2_with fail
      refine (CI.out _).mono ?_
      rintro e w' ⟨rfl, rfl⟩
      go_wp2_with fail
      go_ret
      exact ⟨by rw [HR.out] <;> rfl, rfl⟩
    · have HR : Hid (plainB c = false) := Lib.hid (decide_eq_false (by omega))
      have d1 : (32 : Int) < (c : Int) := by omega
      have d2 : ¬ (c : Int) ≤ 126 := by omega
      go_enter Tryd.func69, Tryd.ntmps69
      go_wp2_with fail
      go_ret
      exact ⟨by rw [HR.out] <;> rfl, rfl⟩
  · have HR : Hid (plainB c = false) := Lib.hid (decide_eq_false (by omega))
    have d1 : ¬ (32 : Int) < (c : Int) := by omega
    go_enter Tryd.func69, Tryd.ntmps69
    go_wp2_with fail
    go_ret
    exact ⟨by rw [HR.out] <;> rfl, rfl⟩
theorem okP_iff (c : Nat) : okP c ↔ (plainB c = true ∨ wildB c = true) := by
  unfold okP wildB
  rw [decide_eq_true_iff]
set_option maxRecDepth 20000 in
set_option maxHeartbeats 4000000 in
theorem nmisName_any (s : ByteArray) (hs : s.size ≤ 140737488355328) (w : World) : Calls Tryd.prog 64 #[.string s] w fun e w' => e = .returned (.bool (formB (nats s))) ∧ Below w.heap.size w w' := by
  have HN := Lib.hid (nats_length s)
  by_cases h40 : 40 < s.size
  · have HR : Hid (formB (nats s) = false) := Lib.hid (nameB_long (by rw [nats_length]; exact h40))
    have d1 : (40 : Int) < (s.size : Int) := by omega
    go_enter Tryd.func64, Tryd.ntmps64
    go_wp2_with fail
    go_ret
    exact ⟨by rw [HR.out] <;> rfl, Below.refl _ _⟩
  · have d1 : ¬ (40 : Int) < (s.size : Int) := by omega
    go_enter Tryd.func64, Tryd.ntmps64
    go_wp2_with fail
    go_loop [10] (fun i => ∃ k : Nat, k ≤ s.size ∧ i = .int .i64 (k : Int) ∧ ∀ c ∈ (nats s).take k, plainB c = true) (fun i => s.size - (intOf i).toNat)
    case atStart => exact ⟨0, Nat.zero_le _, rfl, fun c h => by simp at h⟩
    case round =>
      obtain ⟨k, hk, rfl, hm⟩ := hrel
      have HM := Lib.hid hm
      clear hm
      by_cases hlt : k < s.size
      · have a0 : (0 : Int) ≤ (k : Int) := by omega
        have a1 : (k : Int) < (s.size : Int) := by omega
        have HX := Lib.hid (nats_byte s k hlt)
        have hxb : s[k].toNat < 256 := s[k].toNat_lt
        have HP : Hid (∀ W, Calls Tryd.prog 69 #[.int .u8 (s[k].toNat : Int)] W fun e w' => e = .returned (.bool (plainB s[k].toNat)) ∧ W = w') := Lib.hid fun W => nmplain_any s[k].toNat hxb W
        cases hp : plainB s[k].toNat
        · have HR : Hid (formB (nats s) = false) := Lib.hid (nameB_stop HX.out hp)
          rw [hp] at HP
          clear hp
          go_wp2_with fail
          refine (HP.out _).mono ?_
          rintro e w' ⟨rfl, rfl⟩
          go_wp2_with fail
          go_ret
          exact ⟨by rw [HR.out] <;> rfl, Below.refl _ _⟩
        · have HS : Hid (∀ c ∈ (nats s).take (k + 1), plainB c = true) := Lib.hid (by
            rw [take_snoc_n _ _ _ HX.out]
            intro c hc
            rcases List.mem_append.1 hc with h | h
            · exact HM.out c h
            · rw [List.mem_singleton.1 h]; exact hp)
          rw [hp] at HP
          clear hp
          go_wp2_with fail
          refine (HP.out _).mono ?_
          rintro e w' ⟨rfl, rfl⟩
          go_wp2_with fail
          go_round
          case rel => exact ⟨k + 1, by omega, by go_num, HS.out⟩
          case measure => simp [intOf]; omega
      · have a1 : ¬ (k : Int) < (s.size : Int) := by omega
        have hall : ∀ c ∈ nats s, plainB c = true := by
          have h := HM.out
          rwa [List.take_of_length_le (by rw [HN.out]; omega)] at h
        have hfm := nameB_all (by rw [HN.out]; omega : (nats s).length ≤ 40) hall
        have CS := Lib.hid (split_any s (by omega) 47 w)
        rw [show (47 : UInt8).toNat = 47 from rfl] at CS
        have hlen : (splitL 47 (nats s)).length ≤ 41 := by rw [split_count]; have := List.count_le_length (a := 47) (l := nats s); rw [HN.out] at this; omega
        have hlt256 : ∀ p ∈ splitL 47 (nats s), ∀ x ∈ p, x < 256 := splitL_lt (nats_lt s)
        generalize splitL 47 (nats s) = l at CS hfm hlen hlt256
        obtain ⟨n, hn⟩ : ∃ n, l.length = n := ⟨_, rfl⟩
        rw [hn] at CS hfm hlen
        have HNL := Lib.hid hn
        have HLT := Lib.hid hlt256
        clear hn hlt256 hall
        by_cases h4 : n ≤ 4
        · have d2 : (n : Int) ≤ 4 := by omega
          have HR : Hid (formB (nats s) = !decide ([] ∈ l)) := Lib.hid (by rw [hfm, decide_eq_true h4, Bool.true_and])
          clear hfm
          go_wp2_with fail
          refine CS.out.mono ?_
          rintro e w1 ⟨rfl, hb, hst, hsz⟩
          have HB := Lib.hid hb
          have CC := Lib.hid (containsS_any w.heap.size 0 n n l ⟨#[]⟩ w1 HNL.out (fun _ => hst) HLT.out (by omega) (some ⟨w.heap.size, 0, none⟩) (fun _ => rfl))
          clear hb hst hsz
          go_wp2_with fail
          refine CC.out.mono ?_
          rintro e w' ⟨rfl, rfl⟩
          go_wp2_with fail
          go_ret
          exact ⟨by rw [HR.out] <;> rfl, HB.out⟩
        · have d2 : ¬ (n : Int) ≤ 4 := by omega
          have HR : Hid (formB (nats s) = false) := Lib.hid (by rw [hfm, decide_eq_false h4, Bool.false_and])
          clear hfm
          go_wp2_with fail
          refine CS.out.mono ?_
          rintro e w1 ⟨rfl, hb, hst, hsz⟩
          have HB := Lib.hid hb
          clear hb hst hsz
          go_wp2_with fail
          go_ret
          exact ⟨by rw [HR.out] <;> rfl, HB.out⟩
end Go.Proofs.YtoiffchhfnbooaaDoor

/-
  Plain mathematics of package name, for its laws: what a name goes on is right, shorter and shorter; a name with a part more is below it. Nothing here speaks of a program.
-/
namespace Go.Proofs.YtoiffchhfnbooaaDoor
set_option linter.unusedVariables false
set_option linter.unusedSimpArgs false
set_option linter.unusedVariables false
set_option linter.unusedSimpArgs false

theorem abv_is (l : List Nat) : aboveR l = abvP l l.length := rfl
theorem above_is {l : List Nat} (h : rightN l = true) : aboveN l = abvP l l.length := by unfold aboveN; rw [if_pos h]; rfl
theorem abv_in {l : List Nat} {k i : Nat} (hi : i < k) (h : l[i]? = some 47) : l.take i ∈ abvP l k :=
  List.mem_filterMap.2 ⟨i, List.mem_range.2 hi, by rw [if_pos h]⟩
theorem abv_count (l : List Nat) : ∀ k, k ≤ l.length → (abvP l k).length = (l.take k).count 47
  | 0, _ => rfl
  | k + 1, hk => by
    have hx : l[k]? = some (l[k]'(by omega)) := List.getElem?_eq_getElem (by omega)
    rw [abv_snoc, List.length_append, abv_count l k (by omega), count_take hx, hx]
    by_cases h : l[k]'(by omega) = 47
    · rw [if_pos (by rw [h]), if_pos h]; rfl
    · rw [if_neg (fun e => h (Option.some.inj e)), if_neg h]; rfl
theorem abv_rise (l : List Nat) : ∀ k, k ≤ l.length → (abvP l k).Pairwise (fun a b => a.length < b.length)
  | 0, _ => List.Pairwise.nil
  | k + 1, hk => by
    rw [abv_snoc, List.pairwise_append]
    refine ⟨abv_rise l k (by omega), ?_, fun a ha b hb => ?_⟩
    · split
      · exact List.pairwise_singleton _ _
      · exact List.Pairwise.nil
    · obtain ⟨i, hi, _, rfl⟩ := abv_mem ha
      split at hb
      · rw [List.mem_singleton.1 hb, List.length_take, List.length_take]; omega
      · cases hb
theorem right_parts {l : List Nat} (h : rightN l = true) : formB l = true ∧ cleanN l = l := of_decide_eq_true h
theorem above_three {l : List Nat} (h : rightN l = true) : (aboveN l).length = l.count 47 ∧ (aboveN l).length ≤ 3 := by
  have hc := (of_decide_eq_true (right_parts h).1).2.2.2
  rw [above_is h, abv_count l _ (Nat.le_refl _), List.take_length]
  exact ⟨rfl, hc⟩
theorem above_none {l : List Nat} (h : rightN l = true) : (aboveN l).length = 0 ↔ 47 ∉ l := by
  rw [(above_three h).1, List.count_eq_zero]
theorem getD_take (l : List Nat) {i j : Nat} (h : j < i) : (l.take i).getD j 0 = l.getD j 0 := by
  rw [List.getD_eq_getElem?_getD, List.getD_eq_getElem?_getD, List.getElem?_take_of_lt h]
theorem take_form {l : List Nat} {i : Nat} (h : formB l = true) (hi : l[i]? = some 47) : formB (l.take i) = true := by
  obtain ⟨h1, h2, h3, h4⟩ := of_decide_eq_true h
  have hil : i < l.length := (List.getElem?_eq_some_iff.1 hi).1
  have hg : l.getD i 0 = 47 := by rw [List.getD_eq_getElem?_getD, hi]; rfl
  have hsp := (spot_of (h3 i hil)).2
  have h0 : i ≠ 0 := fun e => hsp ⟨hg, .inl e⟩
  have hb : l.getD (i - 1) 0 ≠ 47 := fun e => hsp ⟨hg, .inr (.inr e)⟩
  have hlen : (l.take i).length = i := by rw [List.length_take]; omega
  refine decide_eq_true ⟨by omega, by omega, fun j hj => ?_, Nat.le_trans ((List.take_sublist i l).count_le 47) h4⟩
  rw [hlen] at hj
  obtain ⟨p1, p2⟩ := spot_of (h3 j (by omega))
  refine spot_mk (by rw [getD_take l hj]; exact p1) ?_
  rw [getD_take l hj, hlen]
  rintro ⟨e, e2⟩
  rcases e2 with e2 | e2 | e2
  · exact p2 ⟨e, .inl e2⟩
  · exact hb (by rw [show i - 1 = j by omega]; exact e)
  · by_cases hj0 : j = 0
    · exact p2 ⟨e, .inl hj0⟩
    · rw [getD_take l (by omega)] at e2
      exact p2 ⟨e, .inr (.inr e2)⟩
theorem take_right {l : List Nat} {i : Nat} (h : rightN l = true) (hi : l[i]? = some 47) : rightN (l.take i) = true := by
  obtain ⟨hf, hc⟩ := right_parts h
  refine decide_eq_true ⟨take_form hf hi, ?_⟩
  by_cases hb : inboxB (l.take i) = true
  · obtain ⟨a, r, e, ha, hm, hr⟩ := inbox_parts hb
    have hil : i < l.length := (List.getElem?_eq_some_iff.1 hi).1
    have hlen : (l.take i).length = i := by rw [List.length_take]; omega
    have hi5 : 5 ≤ i := by rw [e, List.length_append] at hlen; omega
    have ht5 : l.take 5 = a := by
      have h5 := congrArg (List.take 5) e
      rw [List.take_take, Nat.min_eq_left hi5] at h5
      rw [h5, List.take_append_of_le_length (by omega)]
      exact List.take_of_length_le (by omega)
    have hbl : inboxB l = true := by
      refine decide_eq_true ⟨by rw [ht5]; exact hm, ?_⟩
      by_cases h5 : i = 5
      · subst h5; exact .inr hi
      · rcases hr with rfl | ⟨r', rfl⟩
        · rw [e, List.append_nil] at hlen; omega
        · right
          have : (l.take i)[5]? = (a ++ 47 :: r')[5]? := by rw [e]
          rw [List.getElem?_take_of_lt (by omega), List.getElem?_append_right (by omega), ha] at this
          rw [this]; rfl
    have h6 : cleanN l = inboxL ++ l.drop 5 := by unfold cleanN; rw [if_pos hbl]
    rw [h6] at hc
    have h7 := congrArg (List.take 5) hc
    rw [List.take_append_of_le_length (by decide), show inboxL.take 5 = inboxL from rfl, ht5] at h7
    rw [cleanN_parts hb e ha, e, h7]
  · unfold cleanN; rw [if_neg hb]
/-- each that a name goes on is right, and it is below it -/
theorem above_right {l p : List Nat} (h : rightN l = true) (hp : p ∈ aboveN l) : rightN p = true ∧ belowN l p = true := by
  refine ⟨?_, decide_eq_true hp⟩
  rw [above_is h] at hp
  obtain ⟨i, _, hi, rfl⟩ := abv_mem hp
  exact take_right h hi
theorem above_rise {l : List Nat} (h : rightN l = true) {i : Nat} {a b : List Nat} (ha : (aboveN l)[i]? = some a) (hb : (aboveN l)[i + 1]? = some b) : a.length < b.length := by
  rw [above_is h] at ha hb
  have hp := abv_rise l l.length (Nat.le_refl _)
  obtain ⟨h1, rfl⟩ := List.getElem?_eq_some_iff.1 ha
  obtain ⟨h2, rfl⟩ := List.getElem?_eq_some_iff.1 hb
  exact List.pairwise_iff_getElem.1 hp i (i + 1) h1 h2 (by omega)
theorem below_more {s more : List Nat} (h : rightN (s ++ 47 :: more) = true) : belowN (s ++ 47 :: more) s = true := by
  refine decide_eq_true ?_
  rw [above_is h]
  have := abv_in (l := s ++ 47 :: more) (k := (s ++ 47 :: more).length) (i := s.length) (by rw [List.length_append, List.length_cons]; omega) (by rw [List.getElem?_append_right (Nat.le_refl _), Nat.sub_self]; rfl)
  rwa [List.take_left'] at this
  rfl
theorem below_not {s more : List Nat} : belowN s (s ++ 47 :: more) = false := by
  refine decide_eq_false fun h => ?_
  by_cases hr : rightN s = true
  · rw [above_is hr] at h
    obtain ⟨i, hi, _, e⟩ := abv_mem h
    have := congrArg List.length e
    rw [List.length_append, List.length_cons, List.length_take] at this
    omega
  · unfold aboveN at h; rw [if_neg hr] at h; cases h
theorem right_plain {l : List Nat} (h : rightN l = true) : ∀ c ∈ l, c ≠ 42 ∧ c ≠ 37 := fun c hc => by
  have := plain_lt (form_mem (right_parts h).1 c hc)
  exact ⟨this.2.2.1, this.2.2.2⟩
theorem right_pat {l : List Nat} (h : rightN l = true) : patB l = true := by
  have hf := (right_parts h).1
  have h2 := (of_decide_eq_true hf).2.1
  exact decide_eq_true ⟨by omega, fun c hc => .inl (form_mem hf c hc)⟩
end Go.Proofs.YtoiffchhfnbooaaDoor
