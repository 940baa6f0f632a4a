/-
  Plain mathematics of package rule: rules of rising names, what is kept, held, ripe, and may go; a mailbox' seconds set. Nothing here speaks of a program.
-/
import Derived.Test.YtkalnaidccgbiaaUidsMath
namespace Go.Proofs.Ytkalnaidccgbiaa
set_option linter.unusedVariables false
set_option linter.unusedSimpArgs false

def ltS (a b : ByteArray) : Prop := a.data.toList < b.data.toList
instance (a b : ByteArray) : Decidable (ltS a b) := inferInstanceAs (Decidable (a.data.toList < b.data.toList))
theorem ltS_irrefl (a : ByteArray) : ¬ ltS a a := List.lt_irrefl _
theorem ltS_trans {a b c : ByteArray} (h : ltS a b) (h2 : ltS b c) : ltS a c := List.lt_trans h h2
theorem ba_eq {a b : ByteArray} (h : a.data.toList = b.data.toList) : a = b := by
  obtain ⟨⟨x⟩⟩ := a
  obtain ⟨⟨y⟩⟩ := b
  simp only at h
  rw [h]
theorem ltS_tri (a b : ByteArray) : ltS a b ∨ a = b ∨ ltS b a := by
  by_cases h : ltS a b
  · exact .inl h
  · by_cases h2 : ltS b a
    · exact .inr (.inr h2)
    · exact .inr (.inl (ba_eq (List.le_antisymm (List.not_lt.1 h2) (List.not_lt.1 h))))
theorem ltS_ne {a b : ByteArray} (h : ltS a b) : a ≠ b := fun e => ltS_irrefl b (by rw [e] at h; exact h)
theorem ltS_not {a b : ByteArray} (h : ltS a b) : ¬ ltS b a := fun h2 => ltS_irrefl a (ltS_trans h h2)

/-! ### Rules -/
abbrev Rul := ByteArray × Int
def keepR (l : List Rul) (box : ByteArray) : Int := match l.find? (fun r => decide (r.1 = box)) with | some r => r.2 | none => 0
def riseR (l : List Rul) : Prop := l.Pairwise (fun p q => ltS p.1 q.1)
def newR (box : ByteArray) (keep : Int) : List Rul := if 0 < keep then [(box, keep)] else []
def setR (l : List Rul) (box : ByteArray) (keep : Int) : List Rul := l.filter (fun r => decide (ltS r.1 box)) ++ (newR box keep ++ l.filter (fun r => decide (ltS box r.1)))

theorem mem_newR {p : Rul} {b : ByteArray} {k : Int} : p ∈ newR b k ↔ 0 < k ∧ p = (b, k) := by
  unfold newR
  split
  · rename_i h
    simp [h]
  · rename_i h
    simp [h]
theorem mem_setR {p : Rul} {l : List Rul} {b : ByteArray} {k : Int} : p ∈ setR l b k ↔ (p ∈ l ∧ p.1 ≠ b) ∨ (0 < k ∧ p = (b, k)) := by
  unfold setR
  rw [List.mem_append, List.mem_append, List.mem_filter, List.mem_filter, mem_newR, decide_eq_true_iff, decide_eq_true_iff]
  constructor
  · rintro (⟨h1, h2⟩ | h | ⟨h1, h2⟩)
    · exact .inl ⟨h1, ltS_ne h2⟩
    · exact .inr h
    · exact .inl ⟨h1, fun e => ltS_ne h2 e.symm⟩
  · rintro (⟨h1, h2⟩ | h)
    · rcases ltS_tri p.1 b with h3 | h3 | h3
      · exact .inl ⟨h1, h3⟩
      · exact absurd h3 h2
      · exact .inr (.inr ⟨h1, h3⟩)
    · exact .inr (.inl h)
theorem setR_rise {l : List Rul} (h : riseR l) (b : ByteArray) (k : Int) : riseR (setR l b k) := by
  unfold setR riseR
  have h1 : ∀ p ∈ newR b k, p.1 = b := fun p hp => by rw [(mem_newR.1 hp).2]
  rw [List.pairwise_append]
  refine ⟨h.filter _, ?_, ?_⟩
  · rw [List.pairwise_append]
    refine ⟨?_, h.filter _, fun p hp q hq => ?_⟩
    · unfold newR
      split
      · exact List.pairwise_singleton _ _
      · exact List.Pairwise.nil
    · rw [h1 p hp]
      exact of_decide_eq_true (List.mem_filter.1 hq).2
  · intro p hp q hq
    have h2 : ltS p.1 b := of_decide_eq_true (List.mem_filter.1 hp).2
    rcases List.mem_append.1 hq with hq | hq
    · rw [h1 q hq]; exact h2
    · exact ltS_trans h2 (of_decide_eq_true (List.mem_filter.1 hq).2)
theorem riseR_ext : ∀ {l m : List Rul}, riseR l → riseR m → (∀ p, p ∈ l ↔ p ∈ m) → l = m
  | [], [], _, _, _ => rfl
  | [], q :: m, _, _, h => by have := (h q).2 (List.mem_cons_self ..); cases this
  | p :: l, [], _, _, h => by have := (h p).1 (List.mem_cons_self ..); cases this
  | p :: l, q :: m, h1, h2, h => by
    have a1 := List.pairwise_cons.1 h1
    have a2 := List.pairwise_cons.1 h2
    have e : p = q := by
      rcases List.mem_cons.1 ((h p).1 (List.mem_cons_self ..)) with e | hp
      · exact e
      · rcases List.mem_cons.1 ((h q).2 (List.mem_cons_self ..)) with e | hq
        · exact e.symm
        · exact absurd (ltS_trans (a1.1 q hq) (a2.1 p hp)) (ltS_irrefl _)
    subst e
    congr 1
    refine riseR_ext a1.2 a2.2 fun r => ?_
    constructor
    · intro hr
      rcases List.mem_cons.1 ((h r).1 (List.mem_cons_of_mem _ hr)) with e | hm
      · subst e; exact absurd (a1.1 r hr) (ltS_irrefl _)
      · exact hm
    · intro hr
      rcases List.mem_cons.1 ((h r).2 (List.mem_cons_of_mem _ hr)) with e | hm
      · subst e; exact absurd (a2.1 r hr) (ltS_irrefl _)
      · exact hm
/-- rules that are set in any order are the same -/
theorem setR_comm {l : List Rul} (h : riseR l) {a b : ByteArray} (hab : a ≠ b) (x y : Int) : setR (setR l a x) b y = setR (setR l b y) a x := by
  refine riseR_ext (setR_rise (setR_rise h _ _) _ _) (setR_rise (setR_rise h _ _) _ _) fun p => ?_
  rw [mem_setR, mem_setR, mem_setR, mem_setR]
  constructor
  · rintro (⟨⟨h1, h2⟩ | ⟨h1, rfl⟩, h3⟩ | ⟨h1, rfl⟩)
    · exact .inl ⟨.inl ⟨h1, h3⟩, h2⟩
    · exact .inr ⟨h1, rfl⟩
    · exact .inl ⟨.inr ⟨h1, rfl⟩, fun e => hab e.symm⟩
  · rintro (⟨⟨h1, h2⟩ | ⟨h1, rfl⟩, h3⟩ | ⟨h1, rfl⟩)
    · exact .inl ⟨.inl ⟨h1, h3⟩, h2⟩
    · exact .inr ⟨h1, rfl⟩
    · exact .inl ⟨.inr ⟨h1, rfl⟩, hab⟩
/-- what was set holds -/
theorem setR_keep (l : List Rul) (b : ByteArray) (k : Int) : keepR (setR l b k) b = max k 0 := by
  unfold keepR
  have h1 : (l.filter (fun r => decide (ltS r.1 b))).find? (fun r => decide (r.1 = b)) = none := by
    rw [List.find?_eq_none]
    intro p hp
    simpa using ltS_ne (of_decide_eq_true (List.mem_filter.1 hp).2)
  have h2 : (l.filter (fun r => decide (ltS b r.1))).find? (fun r => decide (r.1 = b)) = none := by
    rw [List.find?_eq_none]
    intro p hp
    have := ltS_ne (of_decide_eq_true (List.mem_filter.1 hp).2)
    simpa using fun e => this (Eq.symm e)
  unfold setR
  rw [List.find?_append, h1, List.find?_append, h2]
  unfold newR
  by_cases hk : 0 < k
  · rw [if_pos hk]
    simp
    omega
  · rw [if_neg hk]
    simp
    omega

/-! ### the document's Set, one rule after another -/
def stepR (box : ByteArray) (keep : Int) (s : List Rul × Bool) (r : Rul) : List Rul × Bool :=
  let s1 := if s.2 = false ∧ ¬ ltS r.1 box then (s.1 ++ [(box, keep)], true) else s
  if r.1 = box then s1 else (s1.1 ++ [r], s1.2)
def foldR (box : ByteArray) (keep : Int) (l : List Rul) : List Rul × Bool := l.foldl (stepR box keep) ([], decide (keep ≤ 0))
def docR (box : ByteArray) (keep : Int) (l : List Rul) : List Rul := let s := foldR box keep l; if s.2 = false then s.1 ++ [(box, keep)] else s.1
theorem foldR_snoc (box : ByteArray) (keep : Int) (l : List Rul) (r : Rul) : foldR box keep (l ++ [r]) = stepR box keep (foldR box keep l) r := by
  unfold foldR
  rw [List.foldl_append]
  rfl
theorem step_small {box : ByteArray} {keep : Int} {o : List Rul} {r : Rul} (h : ltS r.1 box) : stepR box keep (o, false) r = (o ++ [r], false) := by
  unfold stepR; simp [h, ltS_ne h]
theorem step_same {box : ByteArray} {keep : Int} {o : List Rul} {r : Rul} (h : r.1 = box) : stepR box keep (o, true) r = (o, true) := by
  unfold stepR; simp [h]
theorem step_other {box : ByteArray} {keep : Int} {o : List Rul} {r : Rul} (h : r.1 ≠ box) : stepR box keep (o, true) r = (o ++ [r], true) := by
  unfold stepR; simp [h]
theorem step_newS {box : ByteArray} {keep : Int} {o : List Rul} {r : Rul} (h : ¬ ltS r.1 box) (hb : r.1 = box) : stepR box keep (o, false) r = (o ++ [(box, keep)], true) := by
  unfold stepR; rw [if_pos (show ((o, false) : List Rul × Bool).2 = false ∧ ¬ ltS r.1 box from ⟨rfl, h⟩)]; simp [hb]
theorem step_newO {box : ByteArray} {keep : Int} {o : List Rul} {r : Rul} (h : ¬ ltS r.1 box) (hb : r.1 ≠ box) : stepR box keep (o, false) r = (o ++ [(box, keep)] ++ [r], true) := by
  unfold stepR; rw [if_pos (show ((o, false) : List Rul × Bool).2 = false ∧ ¬ ltS r.1 box from ⟨rfl, h⟩)]; simp [hb]
theorem fold_small (box : ByteArray) (keep : Int) : ∀ (m : List Rul) (o : List Rul), (∀ r ∈ m, ltS r.1 box) → m.foldl (stepR box keep) (o, false) = (o ++ m, false)
  | [], o, h => by simp
  | r :: m, o, h => by
    have h1 := h r (List.mem_cons_self ..)
    rw [List.foldl_cons, step_small h1, fold_small box keep m _ fun x hx => h x (List.mem_cons_of_mem _ hx)]
    simp
theorem fold_put (box : ByteArray) (keep : Int) : ∀ (m : List Rul) (o : List Rul), m.foldl (stepR box keep) (o, true) = (o ++ m.filter (fun r => decide (r.1 ≠ box)), true)
  | [], o => by simp
  | r :: m, o => by
    by_cases h : r.1 = box
    · rw [List.foldl_cons, step_same h, fold_put box keep m, List.filter_cons_of_neg (by simp [h])]
    · rw [List.foldl_cons, step_other h, fold_put box keep m, List.filter_cons_of_pos (by simp [h])]
      simp
theorem filter_ne_small {box : ByteArray} {m : List Rul} (h : ∀ r ∈ m, ltS r.1 box) : m.filter (fun r => decide (r.1 ≠ box)) = m :=
  List.filter_eq_self.2 fun r hr => decide_eq_true (ltS_ne (h r hr))
theorem riseR_split {l : List Rul} (h : riseR l) (box : ByteArray) : l = l.filter (fun r => decide (ltS r.1 box)) ++ l.filter (fun r => decide (¬ ltS r.1 box)) := by
  induction l with
  | nil => rfl
  | cons r l ih =>
    have h1 := List.pairwise_cons.1 h
    by_cases hr : ltS r.1 box
    · rw [List.filter_cons_of_pos (by simpa using hr), List.filter_cons_of_neg (by simpa using hr), List.cons_append, ← ih h1.2]
    · rw [List.filter_cons_of_neg (by simpa using hr), List.filter_cons_of_pos (by simpa using hr)]
      have e : l.filter (fun r => decide (ltS r.1 box)) = [] := by
        rw [List.filter_eq_nil_iff]
        intro p hp
        have := h1.1 p hp
        simp only [decide_eq_true_eq]
        exact fun z => hr (ltS_trans this z)
      have e2 : l.filter (fun r => decide (¬ ltS r.1 box)) = l := by
        conv => rhs; rw [ih h1.2]
        rw [e, List.nil_append]
      rw [e, e2, List.nil_append]
theorem filter_great {l : List Rul} (box : ByteArray) : (l.filter (fun r => decide (¬ ltS r.1 box))).filter (fun r => decide (r.1 ≠ box)) = l.filter (fun r => decide (ltS box r.1)) := by
  rw [List.filter_filter]
  refine List.filter_congr fun r _ => ?_
  rcases ltS_tri r.1 box with h | h | h
  · simp [h, ltS_not h]
  · rw [h]; simp [ltS_irrefl]
  · have : r.1 ≠ box := fun e => ltS_ne h (Eq.symm e)
    simp [h, ltS_not h, this]
theorem docR_set {l : List Rul} (h : riseR l) (box : ByteArray) (keep : Int) : docR box keep l = setR l box keep := by
  unfold docR foldR setR newR
  have hs : ∀ r ∈ l.filter (fun r => decide (ltS r.1 box)), ltS r.1 box := fun r hr => of_decide_eq_true (List.mem_filter.1 hr).2
  have hg := filter_great (l := l) box
  have hn : ∀ r ∈ l.filter (fun r => decide (¬ ltS r.1 box)), ¬ ltS r.1 box := fun r hr => of_decide_eq_true (List.mem_filter.1 hr).2
  have e := riseR_split h box
  by_cases hk : 0 < keep
  · rw [if_pos hk, decide_eq_false (by omega)]
    conv => lhs; rw [e]
    rw [List.foldl_append, fold_small box keep _ _ hs]
    rw [← hg]
    generalize l.filter (fun r => decide (¬ ltS r.1 box)) = m at hn
    generalize l.filter (fun r => decide (ltS r.1 box)) = m1
    cases m with
    | nil => simp
    | cons r m =>
      have hr := hn r (List.mem_cons_self ..)
      rw [List.foldl_cons]
      by_cases hb : r.1 = box
      · rw [step_newS hr hb, fold_put, List.filter_cons_of_neg (by simp [hb])]
        simp
      · rw [step_newO hr hb, fold_put, List.filter_cons_of_pos (by simp [hb])]
        simp
  · rw [if_neg hk, decide_eq_true (by omega), fold_put]
    conv => lhs; rw [e]
    simp only [Bool.true_eq_false, if_false, List.filter_append, List.nil_append]
    rw [filter_ne_small hs, hg]

/-! ### Tombs and holds -/
def ripeB (at_ keep now : Int) : Bool := decide (min (max at_ 0 + max keep 0) 4611686018427387904 ≤ now)
theorem ripeB_later {a k n m : Int} (h : ripeB a k n = true) (hnm : n ≤ m) : ripeB a k m = true := by
  unfold ripeB at h ⊢
  rw [decide_eq_true_iff] at h ⊢
  omega
/-- a hold, with where its ranges lie -/
structure Hh where
  id : Int
  box : ByteArray
  A : Option Addr
  n : Nat
  c : Nat
  set : List Rg
def oneB (h : Hh) (box : ByteArray) (uid : Int) : Bool := decide (h.box = box) && (decide (h.set = []) || hasZ h.set uid 4294967295)
def heldR (l : List Hh) (box : ByteArray) (uid : Int) : Bool := l.any fun h => oneB h box uid
/-- a tomb, with where its bytes lie, which nothing here looks at -/
structure Tm where
  id : Int
  box : ByteArray
  at_ : Int
  uid : Int
  flags : Int
  date : Int
  A : Option Addr
  n : Nat
  c : Nat
def goesB (rs : List Rul) (hs : List Hh) (now : Int) (t : Tm) : Bool := ripeB t.at_ (keepR rs t.box) now && !heldR hs t.box t.uid
def dueL (rs : List Rul) (hs : List Hh) (now : Int) (l : List Tm) : List Int := (l.filter (goesB rs hs now)).map Tm.id
theorem heldR_snoc (l : List Hh) (h : Hh) (box : ByteArray) (uid : Int) : heldR (l ++ [h]) box uid = (heldR l box uid || oneB h box uid) := by
  unfold heldR
  rw [List.any_append]
  simp
theorem goes_later {rs : List Rul} {hs : List Hh} {n m : Int} {t : Tm} (h : goesB rs hs n t = true) (hnm : n ≤ m) : goesB rs hs m t = true := by
  unfold goesB at h ⊢
  rw [Bool.and_eq_true] at h ⊢
  exact ⟨ripeB_later h.1 hnm, h.2⟩
theorem goes_more {rs : List Rul} {hs : List Hh} {x : Hh} {n : Int} {t : Tm} (h : goesB rs (hs ++ [x]) n t = true) : goesB rs hs n t = true := by
  unfold goesB at h ⊢
  rw [heldR_snoc] at h
  cases h1 : heldR hs t.box t.uid
  · rw [h1] at h
    simp only [Bool.false_or] at h
    rw [Bool.and_eq_true] at h
    rw [h.1]; rfl
  · rw [h1] at h
    simp at h
theorem goes_held {rs : List Rul} {hs : List Hh} {n : Int} {t : Tm} (h : goesB rs hs n t = true) : heldR hs t.box t.uid = false := by
  unfold goesB at h
  rw [Bool.and_eq_true] at h
  simpa using h.2
theorem goes_all {rs : List Rul} {hs : List Hh} {x : Hh} {n : Int} {t : Tm} (hb : x.box = t.box) (hx : x.set = []) : goesB rs (hs ++ [x]) n t = false := by
  unfold goesB
  rw [heldR_snoc, show oneB x t.box t.uid = true from by unfold oneB; simp [hb, hx]]
  simp
theorem heldR_take {l : List Hh} {j : Nat} {h : Hh} (e : l.take (j + 1) = l.take j ++ [h]) (box : ByteArray) (uid : Int) : heldR (l.take (j + 1)) box uid = (heldR (l.take j) box uid || oneB h box uid) := by rw [e, heldR_snoc]
theorem dueL_snoc (rs : List Rul) (hs : List Hh) (now : Int) (l : List Tm) (t : Tm) : dueL rs hs now (l ++ [t]) = dueL rs hs now l ++ (if goesB rs hs now t = true then [t.id] else []) := by
  unfold dueL
  rw [List.filter_append, List.map_append]
  congr 1
  by_cases h : goesB rs hs now t = true
  · rw [if_pos h, List.filter_cons_of_pos h]; rfl
  · rw [if_neg h, List.filter_cons_of_neg h]; rfl
theorem keepR_at {l : List Rul} {box : ByteArray} {j : Nat} {r : Rul} (h : l[j]? = some r) (hb : r.1 = box) (hn : ∀ x ∈ l.take j, x.1 ≠ box) : keepR l box = r.2 := by
  unfold keepR
  have hj : j < l.length := (List.getElem?_eq_some_iff.1 h).1
  have e : l = l.take j ++ r :: l.drop (j + 1) := by
    rw [(List.getElem?_eq_some_iff.1 h).2.symm, ← List.drop_eq_getElem_cons hj, List.take_append_drop]
  rw [e, List.find?_append, List.find?_eq_none.2 (fun x hx => by simpa using hn x hx), List.find?_cons_of_pos (by simp [hb])]
  rfl
theorem keepR_none {l : List Rul} {box : ByteArray} (hn : ∀ x ∈ l, x.1 ≠ box) : keepR l box = 0 := by
  unfold keepR
  rw [List.find?_eq_none.2 (fun x hx => by simpa using hn x hx)]
theorem held_hit {l : List Hh} {j : Nat} {h : Hh} {box : ByteArray} {uid : Int} (e : l[j]? = some h) (h1 : oneB h box uid = true) : heldR l box uid = true := by
  unfold heldR
  rw [List.any_eq_true]
  exact ⟨h, List.mem_of_getElem? e, h1⟩
theorem held_next {l : List Hh} {j : Nat} {h : Hh} {box : ByteArray} {uid : Int} (hn : heldR (l.take j) box uid = false) (e : l.take (j + 1) = l.take j ++ [h]) (h1 : oneB h box uid = false) : heldR (l.take (j + 1)) box uid = false := by
  rw [heldR_take e, hn, h1]; rfl
theorem oneB_other {h : Hh} {box : ByteArray} {uid : Int} (h1 : h.box ≠ box) : oneB h box uid = false := by unfold oneB; simp [h1]
theorem oneB_all {h : Hh} {box : ByteArray} {uid : Int} (h1 : h.box = box) (h2 : h.set = []) : oneB h box uid = true := by unfold oneB; simp [h1, h2]
theorem oneB_has {h : Hh} {box : ByteArray} {uid : Int} (h1 : h.box = box) (h2 : h.set ≠ []) : oneB h box uid = hasZ h.set uid 4294967295 := by unfold oneB; simp [h1, h2]
end Go.Proofs.Ytkalnaidccgbiaa
