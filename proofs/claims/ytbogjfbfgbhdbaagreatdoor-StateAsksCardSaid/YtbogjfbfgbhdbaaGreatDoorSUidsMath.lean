/-
  A part of the proof: see the last text.
-/
import Derived.Test.YtbogjfbfgbhdbaaGreatDoorSPackMath
import Derived.Lib.ParseIntBCases
namespace Go.Proofs.YtbogjfbfgbhdbaaGreatDoor
set_option linter.unusedVariables false
set_option linter.unusedSimpArgs false
open Go.Lib
def okE (z : Int) : Prop := 0 ≤ z ∧ z ≤ 4294967295
abbrev Rg := Int × Int
def okR (r : Rg) : Prop := okE r.1 ∧ okE r.2
instance (z : Int) : Decidable (okE z) := by unfold okE; infer_instance
instance (r : Rg) : Decidable (okR r) := by unfold okR; infer_instance
def rightU (l : List Rg) : Bool := decide (1 ≤ l.length ∧ l.length ≤ 60 ∧ ∀ r ∈ l, okR r)
def meantZ (last z : Int) : Int := if z = 0 then last else z
def inR (last n : Int) (r : Rg) : Bool := decide (min (meantZ last r.1) (meantZ last r.2) ≤ n ∧ n ≤ max (meantZ last r.1) (meantZ last r.2))
def hasZ (l : List Rg) (n last : Int) : Bool := decide (1 ≤ n) && l.any (inR last n)
def riseAt (l : List Int) (i : Nat) : Bool := decide (1 ≤ l.getD i 0 ∧ l.getD i 0 ≤ 4294967295 ∧ (i = 0 ∨ l.getD (i - 1) 0 < l.getD i 0))
def riseB (l : List Int) : Bool := decide (∀ i, i < l.length → riseAt l i = true)
theorem riseB_stop {l : List Int} {k : Nat} (hk : k < l.length) (h : riseAt l k = false) : riseB l = false := decide_eq_false fun e => by rw [e k hk] at h; cases h
theorem any_snoc {α : Type} (l : List α) (x : α) (p : α → Bool) : (l ++ [x]).any p = (l.any p || p x) := by rw [List.any_append]; simp
end Go.Proofs.YtbogjfbfgbhdbaaGreatDoor
namespace Go.Proofs.YtbogjfbfgbhdbaaGreatDoor
set_option linter.unusedVariables false
set_option linter.unusedSimpArgs false
def ltS (a b : ByteArray) : Prop := a.data.toList < b.data.toList
instance (a b : ByteArray) : Decidable (ltS a b) := inferInstanceAs (Decidable (a.data.toList < b.data.toList))
theorem ltS_irrefl (a : ByteArray) : ¬ ltS a a := List.lt_irrefl _
theorem ltS_trans {a b c : ByteArray} (h : ltS a b) (h2 : ltS b c) : ltS a c := List.lt_trans h h2
theorem ba_eq {a b : ByteArray} (h : a.data.toList = b.data.toList) : a = b := by
  obtain ⟨⟨x⟩⟩ := a
  obtain ⟨⟨y⟩⟩ := b
  simp only at h
  rw [h]
theorem ltS_tri (a b : ByteArray) : ltS a b ∨ a = b ∨ ltS b a := by
  by_cases h : ltS a b
  · exact .inl h
  · by_cases h2 : ltS b a
    · exact .inr (.inr h2)
    · exact .inr (.inl (ba_eq (List.le_antisymm (List.not_lt.1 h2) (List.not_lt.1 h))))
theorem ltS_ne {a b : ByteArray} (h : ltS a b) : a ≠ b := fun e => ltS_irrefl b (by rw [e] at h; exact h)
theorem ltS_not {a b : ByteArray} (h : ltS a b) : ¬ ltS b a := fun h2 => ltS_irrefl a (ltS_trans h h2)
abbrev Rul := ByteArray × Int
def keepR (l : List Rul) (box : ByteArray) : Int := match l.find? (fun r => decide (r.1 = box)) with | some r => r.2 | none => 0
def riseR (l : List Rul) : Prop := l.Pairwise (fun p q => ltS p.1 q.1)
def newR (box : ByteArray) (keep : Int) : List Rul := if 0 < keep then [(box, keep)] else []
def setR (l : List Rul) (box : ByteArray) (keep : Int) : List Rul := l.filter (fun r => decide (ltS r.1 box)) ++ (newR box keep ++ l.filter (fun r => decide (ltS box r.1)))
theorem mem_newR {p : Rul} {b : ByteArray} {k : Int} : p ∈ newR b k ↔ 0 < k ∧ p = (b, k) := by
  unfold newR
  split
  · rename_i h
    simp [h]
  · rename_i h
    simp [h]
theorem mem_setR {p : Rul} {l : List Rul} {b : ByteArray} {k : Int} : p ∈ setR l b k ↔ (p ∈ l ∧ p.1 ≠ b) ∨ (0 < k ∧ p = (b, k)) := by
  unfold setR
  rw [List.mem_append, List.mem_append, List.mem_filter, List.mem_filter, mem_newR, decide_eq_true_iff, decide_eq_true_iff]
  constructor
  · rintro (⟨h1, h2⟩ | h | ⟨h1, h2⟩)
    · exact .inl ⟨h1, ltS_ne h2⟩
    · exact .inr h
    · exact .inl ⟨h1, fun e => ltS_ne h2 e.symm⟩
  · rintro (⟨h1, h2⟩ | h)
    · rcases ltS_tri p.1 b with h3 | h3 | h3
      · exact .inl ⟨h1, h3⟩
      · exact absurd h3 h2
      · exact .inr (.inr ⟨h1, h3⟩)
    · exact .inr (.inl h)
theorem setR_rise {l : List Rul} (h : riseR l) (b : ByteArray) (k : Int) : riseR (setR l b k) := by
  unfold setR riseR
  have h1 : ∀ p ∈ newR b k, p.1 = b := fun p hp => by rw [(mem_newR.1 hp).2]
  rw [List.pairwise_append]
  refine ⟨h.filter _, ?_, ?_⟩
  · rw [List.pairwise_append]
    refine ⟨?_, h.filter _, fun p hp q hq => ?_⟩
    · unfold newR
      split
      · exact List.pairwise_singleton _ _
      · exact List.Pairwise.nil
    · rw [h1 p hp]
      exact of_decide_eq_true (List.mem_filter.1 hq).2
  · intro p hp q hq
    have h2 : ltS p.1 b := of_decide_eq_true (List.mem_filter.1 hp).2
    rcases List.mem_append.1 hq with hq | hq
    · rw [h1 q hq]; exact h2
    · exact ltS_trans h2 (of_decide_eq_true (List.mem_filter.1 hq).2)
theorem riseR_split {l : List Rul} (h : riseR l) (box : ByteArray) : l = l.filter (fun r => decide (ltS r.1 box)) ++ l.filter (fun r => decide (¬ ltS r.1 box)) := by
  induction l with
  | nil => rfl
  | cons r l ih =>
    have h1 := List.pairwise_cons.1 h
    by_cases hr : ltS r.1 box
    · rw [List.filter_cons_of_pos (by simpa using hr), List.filter_cons_of_neg (by simpa using hr), List.cons_append, ← ih h1.2]
    · rw [List.filter_cons_of_neg (by simpa using hr), List.filter_cons_of_pos (by simpa using hr)]
      have e : l.filter (fun r => decide (ltS r.1 box)) = [] := by
        rw [List.filter_eq_nil_iff]
        intro p hp
        have := h1.1 p hp
        simp only [decide_eq_true_eq]
        exact fun z => hr (ltS_trans this z)
      have e2 : l.filter (fun r => decide (¬ ltS r.1 box)) = l := by
        conv => rhs; rw [ih h1.2]
        rw [e, List.nil_append]
      rw [e, e2, List.nil_append]
theorem filter_great {l : List Rul} (box : ByteArray) : (l.filter (fun r => decide (¬ ltS r.1 box))).filter (fun r => decide (r.1 ≠ box)) = l.filter (fun r => decide (ltS box r.1)) := by
  rw [List.filter_filter]
  refine List.filter_congr fun r _ => ?_
  rcases ltS_tri r.1 box with h | h | h
  · simp [h, ltS_not h]
  · rw [h]; simp [ltS_irrefl]
  · have : r.1 ≠ box := fun e => ltS_ne h (Eq.symm e)
    simp [h, ltS_not h, this]
def ripeB (at_ keep now : Int) : Bool := decide (min (max at_ 0 + max keep 0) 4611686018427387904 ≤ now)
structure Hh where
  id : Int
  box : ByteArray
  A : Option Addr
  n : Nat
  c : Nat
  set : List Rg
def oneB (h : Hh) (box : ByteArray) (uid : Int) : Bool := decide (h.box = box) && (decide (h.set = []) || hasZ h.set uid 4294967295)
def heldR (l : List Hh) (box : ByteArray) (uid : Int) : Bool := l.any fun h => oneB h box uid
structure Tm where
  id : Int
  box : ByteArray
  at_ : Int
  uid : Int
  flags : Int
  date : Int
  A : Option Addr
  n : Nat
  c : Nat
def goesB (rs : List Rul) (hs : List Hh) (now : Int) (t : Tm) : Bool := ripeB t.at_ (keepR rs t.box) now && !heldR hs t.box t.uid
def dueL (rs : List Rul) (hs : List Hh) (now : Int) (l : List Tm) : List Int := (l.filter (goesB rs hs now)).map Tm.id
theorem heldR_snoc (l : List Hh) (h : Hh) (box : ByteArray) (uid : Int) : heldR (l ++ [h]) box uid = (heldR l box uid || oneB h box uid) := by
  unfold heldR
  rw [List.any_append]
  simp
theorem heldR_take {l : List Hh} {j : Nat} {h : Hh} (e : l.take (j + 1) = l.take j ++ [h]) (box : ByteArray) (uid : Int) : heldR (l.take (j + 1)) box uid = (heldR (l.take j) box uid || oneB h box uid) := by rw [e, heldR_snoc]
theorem dueL_snoc (rs : List Rul) (hs : List Hh) (now : Int) (l : List Tm) (t : Tm) : dueL rs hs now (l ++ [t]) = dueL rs hs now l ++ (if goesB rs hs now t = true then [t.id] else []) := by
  unfold dueL
  rw [List.filter_append, List.map_append]
  congr 1
  by_cases h : goesB rs hs now t = true
  · rw [if_pos h, List.filter_cons_of_pos h]; rfl
  · rw [if_neg h, List.filter_cons_of_neg h]; rfl
theorem keepR_at {l : List Rul} {box : ByteArray} {j : Nat} {r : Rul} (h : l[j]? = some r) (hb : r.1 = box) (hn : ∀ x ∈ l.take j, x.1 ≠ box) : keepR l box = r.2 := by
  unfold keepR
  have hj : j < l.length := (List.getElem?_eq_some_iff.1 h).1
  have e : l = l.take j ++ r :: l.drop (j + 1) := by
    rw [(List.getElem?_eq_some_iff.1 h).2.symm, ← List.drop_eq_getElem_cons hj, List.take_append_drop]
  rw [e, List.find?_append, List.find?_eq_none.2 (fun x hx => by simpa using hn x hx), List.find?_cons_of_pos (by simp [hb])]
  rfl
theorem keepR_none {l : List Rul} {box : ByteArray} (hn : ∀ x ∈ l, x.1 ≠ box) : keepR l box = 0 := by
  unfold keepR
  rw [List.find?_eq_none.2 (fun x hx => by simpa using hn x hx)]
theorem held_hit {l : List Hh} {j : Nat} {h : Hh} {box : ByteArray} {uid : Int} (e : l[j]? = some h) (h1 : oneB h box uid = true) : heldR l box uid = true := by
  unfold heldR
  rw [List.any_eq_true]
  exact ⟨h, List.mem_of_getElem? e, h1⟩
theorem held_next {l : List Hh} {j : Nat} {h : Hh} {box : ByteArray} {uid : Int} (hn : heldR (l.take j) box uid = false) (e : l.take (j + 1) = l.take j ++ [h]) (h1 : oneB h box uid = false) : heldR (l.take (j + 1)) box uid = false := by
  rw [heldR_take e, hn, h1]; rfl
theorem oneB_other {h : Hh} {box : ByteArray} {uid : Int} (h1 : h.box ≠ box) : oneB h box uid = false := by unfold oneB; simp [h1]
end Go.Proofs.YtbogjfbfgbhdbaaGreatDoor
